package conn_test

import (
	"bytes"
	"fmt"
	"math/rand"
	"slices"
	"strings"
	"testing"

	"parley/api"
	"parley/conn"
	"parley/frame"
)

// anyBytes is frames at random, some of them broken.
func anyBytes(dice *rand.Rand, side int) []byte {
	var b []byte
	if side == api.Server && dice.Intn(30) > 0 {
		b = frame.Preface()
	}
	if dice.Intn(30) > 0 {
		b = append(b, fed(settings())...)
	}
	for range dice.Intn(40) {
		payload := make([]byte, dice.Intn(12))
		dice.Read(payload)
		switch dice.Intn(5) {
		case 0:
			b = append(b, fed(block(1+2*dice.Intn(9), dice.Intn(2) == 0, 130, 134, 132))...)
		case 1:
			b = append(b, fed(data(1+2*dice.Intn(3), run(dice.Intn(200)), dice.Intn(4) == 0))...)
		case 2:
			b = append(b, fed(window(0, 1+dice.Intn(1000)), ping("12345678"))...)
		case 3:
			b = append(b, fed(block(1+2*dice.Intn(9), dice.Intn(2) == 0, 136))...)
		default:
			b = append(b, raw(dice.Intn(11), dice.Intn(256), dice.Intn(6), payload...)...)
		}
	}
	return b
}

// TestAnyPieces: P8.10, P0.9: any bytes, in any pieces: the same is told, the same put out.
func TestAnyPieces(t *testing.T) {
	dice := rand.New(rand.NewSource(10))
	told := 0
	for n := range 2000 {
		side := 1 + n%2
		b := anyBytes(dice, side)
		if dice.Intn(4) == 0 {
			b = b[:dice.Intn(len(b)+1)]
		}
		feed := func(most int) (string, []byte, []int) {
			e := newEnd(t, side, conn.Config{Window: 300, Streams: 4})
			if side == api.Client {
				e.open(1, get, false)
				e.open(3, get, true)
			}
			var l []conn.Event
			for rest := b; len(rest) > 0; {
				k := min(1+dice.Intn(most), len(rest))
				l = append(l, e.Feed(rest[:k])...)
				rest = rest[k:]
			}
			return events(t, l), e.Output(), e.Streams()
		}
		tells, puts, there := feed(1 << 20)
		told += len(tells)
		for _, most := range []int{1, 2, 12, 100} {
			if s, out, l := feed(most); s != tells || !bytes.Equal(out, puts) || !slices.Equal(l, there) {
				t.Fatalf("%v by %d: %s, %v; want %s, %v", b, most, s, out, tells, puts)
			}
		}
	}
	if told < 30000 {
		t.Error("bytes that tell too little", told)
	}
}

// side is what one end said and heard of a stream, as texts: lists, bytes, the end.
type side struct{ said, heard strings.Builder }

// pair is two ends, their wires, and what they said.
type pair struct {
	t      *testing.T
	ends   [2]*conn.Conn
	wires  [2][]byte // to the end of that number
	given  [2]int    // what the end's connection window let come
	lines  [2]map[int]*side
	reset  map[int]bool
	dice   *rand.Rand
	slow   bool  // whether what is told is eaten later
	closed bool  // whether a window lets nothing come
	sizes  []int // of what is sent at once: of small windows little, or else it takes all too many rounds
}

func newPair(t *testing.T, dice *rand.Rand) *pair {
	t.Helper()
	p := &pair{t: t, lines: [2]map[int]*side{{}, {}}, reset: map[int]bool{}, dice: dice, given: [2]int{65535, 65535}, slow: dice.Intn(2) == 0}
	windows := []int{0, 1, 5, 300, 65535, 100000, api.MaxWindow}
	p.sizes = []int{0, 1, 10, 1000, 40000}
	for i := range p.ends {
		c := conn.Config{Window: windows[dice.Intn(len(windows))], Streams: 1 + dice.Intn(9)}
		if c.Window < 1000 {
			p.sizes = []int{0, 1, 3, 10, 20}
		}
		p.closed = p.closed || c.Window == 0
		var err error
		if p.ends[i], err = conn.New([]int{api.Client, api.Server}[i], c); err != nil {
			t.Fatal(err)
		}
	}
	return p
}

func (p *pair) line(end, stream int) *side {
	if p.lines[end][stream] == nil {
		p.lines[end][stream] = &side{}
	}
	return p.lines[end][stream]
}

func (p *pair) says(end, stream int, what string, last bool) {
	w := &p.line(end, stream).said
	w.WriteString(what)
	if last {
		w.WriteString("<end>")
	}
}

// headed is how a list is said.
func headed(l string) string { return "(" + text(list(l)) + ")" }

// takes puts out what an end has, and counts what it lets come.
func (p *pair) takes(i int) {
	b := p.ends[i].Output()
	p.wires[1-i] = append(p.wires[1-i], b...)
	for _, f := range frame.Frames(bytes.TrimPrefix(b, frame.Preface()), api.MaxFrame) {
		if x, err := frame.Open(f); err != nil {
			p.t.Fatal("no frame", f)
		} else if x.Type == api.FWindow && x.Stream == 0 {
			p.given[i] += x.Inc
		}
	}
}

// arrives feeds an end some bytes of its wire.
func (p *pair) arrives(i, most int) {
	k := min(most, len(p.wires[i]))
	l := p.ends[i].Feed(p.wires[i][:k])
	p.wires[i] = p.wires[i][k:]
	for _, e := range l {
		p.hears(i, e)
	}
	if code, dead := p.ends[i].Dead(); dead {
		p.t.Fatal("dead", i, code)
	}
}

func (p *pair) hears(i int, e conn.Event) {
	w := &p.line(i, e.Stream).heard
	switch e.Kind {
	case conn.Heads, conn.Trailers:
		w.WriteString("(" + text(e.List) + ")")
	case conn.Data:
		w.Write(e.Bytes)
		if !p.slow && len(e.Bytes) > 0 && slices.Contains(p.ends[i].Streams(), e.Stream) {
			if err := p.ends[i].Ate(e.Stream, len(e.Bytes)); err != nil {
				p.t.Fatal("Ate", err)
			}
		}
	case conn.Reset:
		p.reset[e.Stream] = true
		if e.Code != api.CRefused && e.Code < 100 { // no code that is found, only what the script said
			p.t.Fatal("an end finds fault with the other one", e)
		}
	case conn.Fail:
		p.t.Fatal("a fault", e)
	}
	if e.End || e.Kind == conn.Trailers {
		w.WriteString("<end>")
	}
	said, heard := p.line(1-i, e.Stream).said.String(), w.String()
	if !strings.HasPrefix(said, heard) {
		p.t.Fatalf("of stream %d is heard %q; said was %q", e.Stream, heard, said)
	}
}

// acts: an end does something.
func (p *pair) acts(i int, closing bool) {
	c, dice := p.ends[i], p.dice
	lists := []string{"", " a=b", " !c=d", " e=" + run(dice.Intn(300))}
	behind := lists[dice.Intn(len(lists))]
	last := dice.Intn(4) == 0
	if i == 0 && !closing && dice.Intn(4) == 0 {
		if n, err := c.Open(list(get+behind), last); err == nil {
			p.says(i, n, headed(get+behind), last)
		}
		return
	}
	l := c.Streams()
	if len(l) == 0 {
		return
	}
	n := l[dice.Intn(len(l))]
	switch dice.Intn(6) {
	case 0:
		if c.Answer(n, list(ok+behind), last) == nil {
			p.says(i, n, headed(ok+behind), last)
		}
	case 1, 2:
		s := run(p.sizes[dice.Intn(len(p.sizes))])
		if c.Send(n, []byte(s), last) == nil {
			p.says(i, n, s, last)
		}
	case 3:
		if c.Trail(n, list(behind)) == nil {
			p.says(i, n, headed(behind), true)
		}
	case 4:
		if held := c.Held(n); held > 0 {
			c.Ate(n, 1+dice.Intn(held))
		}
	case 5:
		if dice.Intn(20) == 0 && c.Reset(n, 100+dice.Intn(9)) == nil {
			p.reset[n] = true
		}
	}
	if dice.Intn(50) == 0 {
		c.Ping([]byte("12345678"))
	}
}

// bounds holds both ends to P8.12.
func (p *pair) bounds() {
	for i, c := range p.ends {
		held := 0
		for _, n := range c.Streams() {
			held += c.Held(n)
		}
		if held > 65535 || held > p.given[i] {
			p.t.Fatal("an end holds", held)
		}
	}
}

// settles ends all that is there, and lets all go on until nothing moves any more.
func (p *pair) settles() {
	for quiet := 0; quiet < 3; quiet++ {
		for i, c := range p.ends {
			for _, n := range c.Streams() {
				if c.Answer(n, list(ok), false) == nil {
					p.says(i, n, headed(ok), false)
				}
				if c.Send(n, nil, true) == nil {
					p.says(i, n, "", true)
				}
				if held := c.Held(n); held > 0 {
					c.Ate(n, held)
				}
			}
			p.takes(i)
		}
		for i := range p.ends {
			if len(p.wires[i]) > 0 {
				quiet = 0
			}
			p.arrives(i, 1<<20)
		}
	}
}

// TestBothEnds: P8.11, P8.12, P0.10: two ends, in whatever pieces: what each is told is what the other one said, in order, and all of it in the end.
func TestBothEnds(t *testing.T) {
	dice := rand.New(rand.NewSource(11))
	streams, bytesHeard, resets := 0, 0, 0
	for range 250 {
		p := newPair(t, dice)
		most := []int{1, 9, 100, 5000, 1 << 20}[dice.Intn(5)]
		bye := dice.Intn(8) == 0
		for step := range 400 {
			i := dice.Intn(2)
			switch dice.Intn(3) {
			case 0:
				p.acts(i, false)
			case 1:
				p.takes(i)
			case 2:
				p.arrives(i, 1+dice.Intn(most))
			}
			if bye && step == 300 {
				p.ends[dice.Intn(2)].Bye(dice.Intn(9))
			}
			p.bounds()
		}
		p.settles()
		stuck := p.stuck()
		if stuck && !p.closed {
			t.Fatal("bytes wait, and nothing moves any more")
		}
		for i, c := range p.ends {
			if l := c.Streams(); len(l) > 0 && !stuck {
				t.Fatal("in the end there are", i, l)
			}
			for n, x := range p.lines[i] {
				said, heard := x.said.String(), p.line(1-i, n).heard.String()
				if said != heard && !p.reset[n] && !stuck {
					t.Fatalf("of stream %d was said %q, heard %q", n, said, heard)
				}
				bytesHeard += len(heard)
			}
			streams += len(p.lines[i])
		}
		resets += len(p.reset)
	}
	if streams < 3000 || bytesHeard < 1000000 || resets < 100 {
		t.Error("scripts that are no good", streams, bytesHeard, resets)
	}
}

// stuck: do bytes wait for a window that is never given, as it began with nothing?
func (p *pair) stuck() bool {
	for _, c := range p.ends {
		for _, n := range c.Streams() {
			if c.Waiting(n) > 0 {
				return true
			}
		}
	}
	return false
}

// TestBound: P8.12, P0.11: whatever comes, what is held is what was let come, and not more.
func TestBound(t *testing.T) {
	dice := rand.New(rand.NewSource(12))
	fullest := 0
	for range 200 {
		e := newEnd(t, api.Server, conn.Config{Window: []int{100, 20000, 65535, api.MaxWindow}[dice.Intn(4)], Streams: 50})
		e.reader.read(t, e.Output())
		e.greet()
		let := 65535
		for range 100 {
			n := 1 + 2*dice.Intn(8)
			if !slices.Contains(e.Streams(), n) {
				e.Feed(fed(block(n, false, 130, 134, 132)))
			}
			e.Feed(fed(padded(n, run(dice.Intn(16000)), dice.Intn(256), false)))
			if held := e.Held(n); held > 0 && dice.Intn(3) == 0 {
				e.Ate(n, 1+dice.Intn(held))
			}
			held := 0
			for _, n := range e.Streams() {
				held += e.Held(n)
			}
			for _, s := range strings.Split(e.reader.read(t, e.Output()), "; ") {
				inc := 0
				if k, _ := fmt.Sscanf(s, "WINDOW 0 %d", &inc); k == 1 {
					let += inc
				}
			}
			if held > let || held > 65535 {
				t.Fatal("held", held, "of", let)
			}
			fullest = max(fullest, held)
		}
	}
	if fullest < 50000 {
		t.Error("what is held at most", fullest)
	}
}
