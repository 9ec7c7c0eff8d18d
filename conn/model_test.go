package conn_test

import (
	"cmp"
	"errors"
	"fmt"
	"maps"
	"math"
	"math/rand"
	"slices"
	"strings"
	"testing"

	"parley/api"
	"parley/conn"
	"parley/frame"
	"parley/head"
	"parley/hpack"
)

// model is a second way of saying an end: of frames and texts, not of bytes; with numbers for windows, and no blocks in what is put out.
type model struct {
	server            bool
	conf              conn.Config
	dead              int // the code; -1: it lives
	told, out         []string
	streams           map[int]*half
	greatest, most    int
	in, outw          int
	firstIn, firstOut int
	acked, begun      bool
	away, bye         bool
	part              *frame.Info // the list that isn't whole
	decoder           *hpack.Decoder
}

// half is a stream: its own side, the other one.
type half struct {
	own, other string // fresh, open, ends (asked to end), trails (likewise), ended
	in, out    int
	held       int
	waits      []byte
	trail      string
}

func newModel(side int, c conn.Config) *model {
	d, _ := hpack.NewDecoder(api.MaxTable)
	return &model{
		server: side == api.Server, conf: c, dead: -1, streams: map[int]*half{}, most: math.MaxInt32,
		in: 65535, outw: 65535, firstIn: 65535, firstOut: 65535, decoder: d,
	}
}

func (m *model) put(format string, a ...any)  { m.out = append(m.out, fmt.Sprintf(format, a...)) }
func (m *model) tell(format string, a ...any) { m.told = append(m.told, fmt.Sprintf(format, a...)) }

func (m *model) back(n int) {
	if n > 0 {
		m.in += n
		m.put("WINDOW 0 %d", n)
	}
}

func (m *model) goAway(code int) {
	last := 0
	if m.server {
		last = m.greatest
	}
	m.put("GOAWAY %d %d", last, code)
}

func (m *model) fail(code int) {
	m.goAway(code)
	m.tell("Fail %d", code)
	m.dead = code
	clear(m.streams)
}

func (m *model) idle(n int) bool { return n <= 0 || n%2 == 0 || n > m.greatest }

func (m *model) leave(n int) {
	held := m.streams[n].held
	delete(m.streams, n)
	m.back(held)
}

func (m *model) fault(n, code int) {
	if m.streams[n] != nil {
		m.put("RST %d %d", n, code)
		m.tell("Reset %d %d", n, code)
		m.leave(n)
	} else if m.idle(n) {
		m.fail(code)
	}
}

func (m *model) done(n int) {
	if s := m.streams[n]; s != nil && s.own == "ended" && s.other == "ended" {
		m.leave(n)
	}
}

// feed is told a frame.
func (m *model) feed(f api.Frame) {
	if m.dead >= 0 {
		return
	}
	first := !m.begun
	m.begun = true
	i, err := frame.Open(f)
	var h *api.H2
	continues := f.Type == api.FContinue
	if first && (f.Type != api.FSettings || f.Flags&1 != 0) || (m.part != nil) != continues || continues && m.part.Stream != f.Stream {
		m.fail(1)
	} else if errors.As(err, &h) && h.Stream == 0 {
		m.fail(h.Code)
	} else if err != nil {
		m.fault(h.Stream, h.Code)
	} else {
		m.does(i, len(f.Payload))
	}
}

func (m *model) does(i frame.Info, counts int) {
	s := m.streams[i.Stream]
	switch i.Type {
	case api.FData:
		m.data(i, s, counts)
	case api.FHeaders:
		if m.server && i.Stream%2 == 0 || !m.server && m.idle(i.Stream) {
			m.fail(1)
			return
		}
		m.part = &i
		m.pieces(i.EndHeads)
	case api.FContinue:
		m.part.Data = append(m.part.Data, i.Data...)
		m.pieces(i.EndHeads)
	case api.FReset:
		if m.idle(i.Stream) {
			m.fail(1)
		} else if s != nil {
			m.tell("Reset %d %d", i.Stream, i.Code)
			m.leave(i.Stream)
		}
	case api.FSettings:
		m.settings(i)
	case api.FPush:
		m.fail(1)
	case api.FPing:
		if i.Ack {
			m.tell("Pong %s", plain(i.Data))
		} else {
			m.put("PING %q ack", i.Data)
		}
	case api.FGoAway:
		m.tell("Gone %d %d", i.Last, i.Code)
		m.away = true
		for _, n := range m.numbers() {
			if !m.server && n > i.Last {
				m.tell("Reset %d 7", n)
				m.leave(n)
			}
		}
	case api.FWindow:
		if i.Stream == 0 {
			if m.outw += i.Inc; m.outw > api.MaxWindow {
				m.fail(3)
			}
		} else if m.idle(i.Stream) {
			m.fail(1)
		} else if s != nil && s.out+i.Inc > api.MaxWindow {
			m.fault(i.Stream, 3)
		} else if s != nil {
			s.out += i.Inc
		}
	}
}

func (m *model) data(i frame.Info, s *half, counts int) {
	if m.idle(i.Stream) {
		m.fail(1)
		return
	}
	if counts > 0 && counts > m.in {
		m.fail(3)
		return
	}
	m.in -= counts
	if s == nil {
		m.back(counts)
		return
	}
	code := 0
	if s.other == "fresh" {
		code = 1
	} else if s.other == "ended" {
		code = 5
	} else if counts > 0 && counts > s.in {
		code = 3
	}
	if code != 0 {
		m.fault(i.Stream, code)
		m.back(counts)
		return
	}
	s.in -= counts
	if pad := counts - len(i.Data); pad > 0 {
		m.back(pad)
		if !i.End {
			s.in += pad
			m.put("WINDOW %d %d", i.Stream, pad)
		}
	}
	s.held += len(i.Data)
	if len(i.Data) > 0 || i.End {
		m.tell("Data %d %s%s", i.Stream, plain(i.Data), ending(i.End))
	}
	if i.End {
		s.other = "ended"
		m.done(i.Stream)
	}
}

func (m *model) pieces(whole bool) {
	n, end := m.part.Stream, m.part.End
	if len(m.part.Data) > api.MaxList {
		m.fail(11)
		return
	}
	if !whole {
		return
	}
	l, err := m.decoder.Decode(m.part.Data)
	m.part = nil
	if err != nil {
		m.fail(9)
		return
	}
	s := m.streams[n]
	switch {
	case n > m.greatest:
		m.greatest = n
		if m.bye || len(m.streams) >= m.conf.Streams {
			m.put("RST %d 7", n)
		} else if _, err := head.Open(l); err != nil {
			m.put("RST %d 1", n)
		} else {
			s = &half{own: "fresh", other: "open", in: m.firstIn, out: m.firstOut}
			m.streams[n] = s
			m.tell("Heads %d (%s)%s", n, text(l), ending(end))
		}
	case s == nil:
	case s.other == "ended":
		m.fault(n, 5)
		return
	case s.other == "fresh":
		r, err := head.OpenAnswer(l)
		if err != nil || end && r.Status < 200 {
			m.fault(n, 1)
			return
		}
		if r.Status < 200 {
			return
		}
		s.other = "open"
		m.tell("Heads %d (%s)%s", n, text(l), ending(end))
	default:
		if !end || head.Trailers(l) != nil {
			m.fault(n, 1)
			return
		}
		m.tell("Trailers %d (%s)", n, text(l))
	}
	if s != nil && end {
		s.other = "ended"
		m.done(n)
	}
}

func (m *model) settings(i frame.Info) {
	if i.Ack {
		if m.acked {
			m.fail(1)
			return
		}
		m.acked = true
		for _, s := range m.streams {
			s.in += m.conf.Window - 65535
		}
		m.firstIn = m.conf.Window
		return
	}
	for _, x := range i.Settings {
		if x.ID == api.SStreams {
			m.most = x.Value
		}
		if x.ID != api.SWindow {
			continue
		}
		for _, s := range m.streams {
			s.out += x.Value - m.firstOut
			if s.out > api.MaxWindow || s.out < -api.MaxWindow {
				m.fail(3)
				return
			}
		}
		m.firstOut = x.Value
	}
	m.put("SETTINGS ack")
	m.tell("Ready")
}

// side is 0 of a server, 1 of a client.
func (m *model) side() int {
	if m.server {
		return 0
	}
	return 1
}

func (m *model) numbers() []int { return slices.Sorted(maps.Keys(m.streams)) }

// open, answer .. are the calls.
func (m *model) open(l []api.Header, end bool) (int, error) {
	_, err := head.Open(l)
	n := m.greatest + 1
	if n%2 == 0 {
		n++
	}
	faults := []struct {
		is  bool
		err error
	}{
		{m.dead >= 0, api.ErrGone}, {m.server, api.ErrRole}, {m.away || m.bye, api.ErrGone}, {len(m.streams) >= m.most, api.ErrMany},
		{err != nil, api.ErrHead}, {hpack.Size(l) > api.MaxList, api.ErrList},
	}
	for _, x := range faults {
		if x.is {
			return 0, x.err
		}
	}
	m.greatest = n
	s := &half{own: "open", other: "fresh", in: m.firstIn, out: m.firstOut}
	if end {
		s.own = "ended"
	}
	m.streams[n] = s
	m.put("HEADERS %d (%s)%s", n, text(l), ending(end))
	return n, nil
}

func (m *model) answer(n int, l []api.Header, end bool) error {
	s := m.streams[n]
	r, err := head.OpenAnswer(l)
	switch {
	case m.dead >= 0:
		return api.ErrGone
	case !m.server:
		return api.ErrRole
	case s == nil || s.own != "fresh":
		return api.ErrStream
	case err != nil || r.Status < 200:
		return api.ErrHead
	case hpack.Size(l) > api.MaxList:
		return api.ErrList
	}
	s.own = "open"
	m.put("HEADERS %d (%s)%s", n, text(l), ending(end))
	if end {
		s.own = "ended"
		m.done(n)
	}
	return nil
}

// there is ErrGone, ErrStream, or the first of the errors that is one.
func (m *model) there(n int, may bool, errs ...error) error {
	if m.dead >= 0 {
		return api.ErrGone
	}
	if m.streams[n] == nil || !may {
		return api.ErrStream
	}
	return cmp.Or(errs...)
}

func (m *model) may(n int) bool { return m.streams[n] != nil && m.streams[n].own == "open" }

func (m *model) send(n int, b []byte, end bool) error {
	err := m.there(n, m.may(n))
	if err == nil {
		m.streams[n].waits = append(m.streams[n].waits, b...)
		if end {
			m.streams[n].own = "ends"
		}
	}
	return err
}

func (m *model) trails(n int, l []api.Header) error {
	var long error
	if hpack.Size(l) > api.MaxList {
		long = api.ErrList
	}
	err := m.there(n, m.may(n), head.Trailers(l), long)
	if err == nil {
		m.streams[n].own, m.streams[n].trail = "trails", text(l)
	}
	return err
}

func (m *model) reset(n, code int) error {
	err := m.there(n, true, fits(code))
	if err == nil {
		m.put("RST %d %d", n, code)
		m.leave(n)
	}
	return err
}

func fits(code int) error {
	if code < 0 || code > math.MaxUint32 {
		return api.ErrNumber
	}
	return nil
}

func (m *model) ate(n, k int) error {
	err := m.there(n, true)
	if err != nil {
		return err
	}
	s := m.streams[n]
	if k < 1 || k > s.held {
		return api.ErrNumber
	}
	s.held -= k
	m.back(k)
	if s.other != "ended" {
		s.in += k
		m.put("WINDOW %d %d", n, k)
	}
	return nil
}

func (m *model) farewell(code int) error {
	if m.dead >= 0 {
		return api.ErrGone
	}
	if err := fits(code); err != nil {
		return err
	}
	m.goAway(code)
	m.bye = true
	return nil
}

func (m *model) output() string {
	for more := true; more; {
		more = false
		for _, n := range m.numbers() {
			s := m.streams[n]
			if len(s.waits) > 0 {
				k := min(len(s.waits), 16384, s.out, m.outw)
				if k <= 0 {
					continue
				}
				last := s.own == "ends" && k == len(s.waits)
				m.put("DATA %d %s%s", n, plain(s.waits[:k]), ending(last))
				s.waits, s.out, m.outw = s.waits[k:], s.out-k, m.outw-k
				if last {
					s.own = "ended"
				}
			} else if s.own == "ends" {
				m.put(`DATA %d "" end`, n)
				s.own = "ended"
			} else if s.own == "trails" {
				m.put("HEADERS %d (%s) end", n, s.trail)
				s.own = "ended"
			} else {
				continue
			}
			more = true
			m.done(n)
		}
	}
	out := strings.Join(m.out, "; ")
	m.out = nil
	return out
}

// script is some hundred steps with an end and its model, at random.
type script struct {
	*end
	m    *model
	dice *rand.Rand
	full bool // whether nothing is eaten, and no data ends
	log  []string
}

// step feeds a frame, or does a call.
func (s *script) step() {
	s.Helper()
	if s.dice.Intn(2) == 0 {
		f := s.frame()
		b := raw(f.Type, f.Flags, f.Stream, f.Payload...)
		s.m.told = nil
		s.m.feed(f)
		s.log = append(s.log, fmt.Sprintf("feed %d %d %d %s", f.Type, f.Flags, f.Stream, plain(f.Payload)))
		s.bytes(strings.Join(s.m.told, "; "), b)
		return
	}
	s.call()
}

// stream is a number that is often one that is there, and seldom one that is idle.
func (s *script) stream() int {
	l := s.m.numbers()
	switch {
	case s.dice.Intn(150) == 0:
		return s.dice.Intn(s.m.greatest + 4)
	case len(l) > 0 && s.dice.Intn(8) > 0:
		return l[s.dice.Intn(len(l))]
	}
	return 1 + 2*s.dice.Intn((s.m.greatest+2)/2)
}

func (s *script) some(l ...string) string { return l[s.dice.Intn(len(l))] }

// frame is what the other side may say, and often may not.
func (s *script) frame() api.Frame {
	number := func(n int) []byte { return []byte{byte(n >> 24), byte(n >> 16), byte(n >> 8), byte(n)} }
	sized := func(n int) []byte { return []byte(run(n)) }
	f := api.Frame{Stream: s.stream()}
	if s.m.part != nil && s.dice.Intn(60) > 0 {
		f.Type, f.Stream, f.Flags = api.FContinue, s.m.part.Stream, 4*s.dice.Intn(2)
		if s.dice.Intn(20) == 0 {
			f.Payload = sized(16384)
		}
		return f
	}
	f.Type = []int{0, 0, 0, 0, 0, 1, 1, 1, 1, 1, 1, 2, 3, 4, 4, 6, 8, 8, 8, 77}[s.dice.Intn(20)]
	if s.m.greatest == 0 && f.Type < 4 { // as all streams are idle
		f.Type = []int{1, 4, 6, 77}[s.dice.Intn(4-s.m.side())+s.m.side()]
	}
	if s.dice.Intn(400) == 0 {
		f.Type = s.dice.Intn(12)
	}
	switch f.Type {
	case api.FData:
		f.Flags = s.dice.Intn(5) / 4
		f.Payload = sized([]int{0, 1, 2, 3, 5, 9, 700, 16383, 16384}[s.dice.Intn(9)])
		if s.full {
			f.Flags, f.Payload = 0, sized(16384-s.dice.Intn(2))
		}
		if s.dice.Intn(4) == 0 {
			pad := s.dice.Intn(4)
			f.Flags |= 8
			f.Payload = slices.Concat([]byte{byte(pad)}, f.Payload[:min(len(f.Payload), 16000)], make([]byte, pad))
		}
	case api.FHeaders:
		s.lists(&f)
	case api.FPriority:
		f.Payload = append(number(20), 1)[:5-s.dice.Intn(15)/14]
	case api.FReset:
		f.Payload = number(s.dice.Intn(13))
	case api.FSettings:
		f.Stream = 0
		if s.dice.Intn(20) == 0 && (!s.m.acked || s.dice.Intn(20) == 0) {
			f.Flags = 1
		} else {
			for range s.dice.Intn(4) {
				id := []int{1, 2, 3, 4, 4, 4, 6, 9}[s.dice.Intn(8)]
				n := []int{0, 1, 1, 1, 100, 4096, 65535, 100000}[s.dice.Intn(8)]
				if id == 3 {
					n = 1 + s.dice.Intn(9)
				} else if id == 2 {
					n = 0
				}
				f.Payload = append(append(f.Payload, 0, byte(id)), number(n)...)
			}
		}
	case api.FPing:
		f.Stream, f.Flags, f.Payload = 0, s.dice.Intn(2), sized(8)
	case api.FGoAway:
		f.Stream, f.Payload = 0, append(number(s.dice.Intn(9)), number(s.dice.Intn(9))...)
	case api.FWindow:
		if s.dice.Intn(3) == 0 || s.m.greatest == 0 {
			f.Stream = 0
		}
		n := []int{0, 1, 2, 5, 1000, 20000}[s.dice.Intn(6)]
		if s.dice.Intn(30) == 0 && f.Stream > 0 {
			n = api.MaxWindow
		}
		if f.Stream == 0 {
			n = max(n, 1)
		}
		f.Payload = number(n)
	}
	return f
}

// lists makes f HEADERS with a list that may often be.
func (s *script) lists(f *api.Frame) {
	f.Flags = 4 + s.dice.Intn(2)
	l := s.some(get, get, get, get, get+" a=b", "", "a=b")
	if s.m.server {
		if x := s.m.streams[f.Stream]; x != nil && s.dice.Intn(3) == 0 {
			l, f.Flags = s.some("", "a=b", "a=b c=d", get), 4+(s.dice.Intn(9)+7)/8
		} else if s.dice.Intn(9) > 0 {
			f.Stream = s.m.greatest + 1
			f.Stream += 1 - f.Stream%2 + 2*(s.dice.Intn(5)/4)
		}
	} else {
		l = s.some(ok, ok, ok, ok+" a=b", ":status=100", ":status=199", "", "a=b", get)
		if x := s.m.streams[f.Stream]; x != nil && x.other == "open" && s.dice.Intn(3) > 0 {
			l, f.Flags = "a=b", 5
		}
	}
	f.Payload = s.encoder.Encode(list(l))
	switch s.dice.Intn(40) {
	case 0:
		if s.dice.Intn(5) == 0 {
			f.Payload = []byte{128}
		}
	case 1, 2, 3:
		f.Flags &^= 4
	case 4:
		f.Flags |= 32
		f.Payload = append([]byte{0, 0, 0, byte(s.dice.Intn(9)), 3}, f.Payload...)
	}
}

// same holds what the end answered to what the model did.
func (s *script) same(what string, got, want any) {
	s.Helper()
	s.log = append(s.log, what)
	if got != want {
		s.Fatalf("%s answers %v; want %v; behind %s", what, got, want, strings.Join(s.log, " / "))
	}
}

func (s *script) call() {
	s.Helper()
	n, end := s.stream(), s.dice.Intn(4) == 0
	size := []int{0, 1, 2, 9, 300, 20000}[s.dice.Intn(6)]
	switch s.dice.Intn(12) {
	case 0, 1:
		l := list(s.some(get, get, get+" a=b", get+" !c=d", ok))
		number, err := s.Open(l, end)
		wantNumber, want := s.m.open(l, end)
		s.same("Open", [2]any{number, err}, [2]any{wantNumber, want})
	case 2, 3:
		l := list(s.some(ok, ok, ok+" a=b", ":status=404", ":status=101", get))
		s.same("Answer", s.Answer(n, l, end), s.m.answer(n, l, end))
	case 4, 5:
		s.same("Send", s.Send(n, []byte(run(size)), end), s.m.send(n, []byte(run(size)), end))
	case 6:
		l := list(s.some("", "a=b", "c=d !e=f", ok))
		s.same("Trail", s.Trail(n, l), s.m.trails(n, l))
	case 7:
		if s.dice.Intn(3) == 0 {
			code := []int{-1, 0, 8, 1 << 32}[s.dice.Intn(4)]
			s.same("Reset", s.Reset(n, code), s.m.reset(n, code))
		}
	case 8, 9:
		if s.full {
			return
		}
		k := s.Held(n) + []int{0, 0, 0, 1, -1, -5}[s.dice.Intn(6)]
		s.same("Ate", s.Ate(n, k), s.m.ate(n, k))
	case 10:
		if s.dice.Intn(60) == 0 {
			code := s.dice.Intn(9) - 1
			s.same("Bye", s.Bye(code), s.m.farewell(code))
		}
	case 11:
		s.same("Output", s.reader.read(s.T, s.Output()), s.m.output())
	}
}

// look holds what can be asked for to the model.
func (s *script) look() {
	s.Helper()
	code, dead := s.Dead()
	if want := s.m.dead >= 0; dead != want || code != max(s.m.dead, 0) {
		s.Fatalf("Dead answers %d, %v; want %d; behind %s", code, dead, s.m.dead, strings.Join(s.log, " / "))
	}
	if l := s.Streams(); !slices.Equal(l, s.m.numbers()) {
		s.Fatalf("there are %v; want %v; behind %s", l, s.m.numbers(), strings.Join(s.log, " / "))
	}
	for n, x := range s.m.streams {
		if s.Held(n) != x.held || s.Waiting(n) != len(x.waits) {
			s.Fatalf("stream %d holds %d, waits %d; want %d, %d; behind %s", n, s.Held(n), s.Waiting(n), x.held, len(x.waits), strings.Join(s.log, " / "))
		}
	}
}

// TestModel: P8.1 to P8.8, P8.10, P8.12, held against the second way of saying it, whatever comes.
func TestModel(t *testing.T) {
	dice := rand.New(rand.NewSource(8))
	steps, died := 0, map[int]int{}
	for run := range 1500 {
		side := 1 + run%2
		c := conn.Config{Window: []int{0, 3, 10, 1000, 65535, 1 << 20}[dice.Intn(6)], Streams: 1 + dice.Intn(6)}
		full := dice.Intn(3) == 0
		if full {
			c.Window = 65535
		}
		s := &script{end: newEnd(t, side, c), m: newModel(side, c), dice: dice, full: full}
		s.piece = []int{1, 5, 9, 100, 1 << 20}[dice.Intn(5)]
		s.reader.read(t, s.Output())
		if side == api.Server {
			s.bytes("", frame.Preface())
		}
		if dice.Intn(20) > 0 {
			s.m.feed(api.Frame{Type: api.FSettings})
			s.bytes("Ready", fed(settings()))
		}
		for range 150 {
			s.step()
			s.look()
			steps++
			if s.m.dead >= 0 && dice.Intn(4) == 0 {
				break
			}
		}
		s.same("the last Output", s.reader.read(t, s.Output()), s.m.output())
		died[s.m.dead]++
	}
	if steps < 50000 || len(died) < 6 || died[api.CFlow] < 20 {
		t.Error("scripts that are no good", steps, died)
	}
}
