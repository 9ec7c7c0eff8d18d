package frame_test

import (
	"bytes"
	"math/rand"
	"testing"

	"parley/api"
	"parley/frame"
)

// edge is some number that often is one at which something changes.
func edge(dice *rand.Rand) int {
	edges := []int{0, 0, 0, 1, 1, 2, 3, 4, 5, 255, 256, 16383, 16384, 65535, 65536, 1<<24 - 1, 1 << 24, api.MaxStream, 1 << 31, 1<<32 - 1, 1 << 32, -1}
	return edges[dice.Intn(len(edges))]
}

func someBytes(dice *rand.Rand, most int) []byte {
	b := make([]byte, dice.Intn(most+1))
	dice.Read(b)
	return b
}

// someFrame is some frame that Put takes.
func someFrame(dice *rand.Rand) api.Frame {
	f := api.Frame{Type: dice.Intn(12), Flags: dice.Intn(256), Stream: dice.Intn(4), Payload: someBytes(dice, 20)}
	if dice.Intn(4) == 0 {
		f.Type = dice.Intn(256)
	}
	if dice.Intn(4) == 0 {
		f.Stream = dice.Intn(api.MaxStream)
	}
	if dice.Intn(2) == 0 {
		for i := range f.Payload {
			f.Payload[i] &= 3
		}
	}
	return f
}

// TestBytesThereAndBack: P5.6, Get of Put, whatever stands behind; Put of what Get took; Frames of many.
func TestBytesThereAndBack(t *testing.T) {
	dice := rand.New(rand.NewSource(1))
	for range 500 {
		var many []byte
		var put []placed
		for range dice.Intn(6) {
			f := someFrame(dice)
			b, err := frame.Put(nil, f)
			if err != nil {
				t.Fatal("Put", f, err)
			}
			gets(t, join(b, someBytes(dice, 20)), len(f.Payload), f, len(b))
			put = append(put, placed{len(many), f})
			many, _ = frame.Put(many, f)
		}
		samePlaced(t, all(many, 20), put)
	}
	taken := 0
	for range 20000 {
		b := someBytes(dice, 40)
		for i := range min(len(b), 2) {
			b[i] = 0
		}
		if len(b) > 2 {
			b[2] &= 15
		}
		f, n, err := frame.Get(b, 15)
		if err != nil {
			continue
		}
		taken++
		again, err := frame.Put(nil, f)
		want := bytes.Clone(b[:n])
		want[5] &= 127
		if !bytes.Equal(again, want) || err != nil {
			t.Fatalf("Put of Get of %v = %v, %v", b, again, err)
		}
	}
	if taken < 2000 {
		t.Error("frames among the bytes", taken)
	}
}

// TestOpenShort: P5.2, P5.7, against the second way of saying it, at all short payloads of each type.
func TestOpenShort(t *testing.T) {
	alphabet := []byte{0, 1, 2, 3, 128}
	for kind := range 11 {
		for _, flags := range []int{0, 1, 4, 8, 32, 40, 255} {
			for stream := range 4 {
				var grow func(b []byte)
				grow = func(b []byte) {
					checkOpen(t, api.Frame{Type: kind, Flags: flags, Stream: stream, Payload: b})
					if len(b) == 5 {
						return
					}
					for _, c := range alphabet[:5-len(b)/2] {
						grow(join(b, []byte{c}))
					}
				}
				grow(nil)
			}
		}
	}
}

// TestOpenAny: P5.2, P5.7, at frames of all kinds.
func TestOpenAny(t *testing.T) {
	dice := rand.New(rand.NewSource(2))
	for range 100000 {
		f := someFrame(dice)
		if f.Type == api.FSettings && dice.Intn(4) > 0 {
			f.Flags, f.Stream = 0, 0
			f.Payload = nil
			for range dice.Intn(4) {
				s := edge(dice)
				f.Payload = append(f.Payload, 0, byte(dice.Intn(8)), byte(s>>24), byte(s>>16), byte(s>>8), byte(s))
			}
		}
		checkOpen(t, f)
	}
}

// someInfo is something to say that a frame of its type may often say.
func someInfo(dice *rand.Rand) frame.Info {
	odd := func() bool { return dice.Intn(12) == 0 }
	is := func(may bool) bool { return may && dice.Intn(2) == 0 || odd() }
	number := func(may bool) int {
		if may || odd() {
			return edge(dice)
		}
		return 0
	}
	i := frame.Info{Type: dice.Intn(11), Stream: 1 + dice.Intn(3)}
	heads, data, push := i.Type == api.FHeaders, i.Type == api.FData, i.Type == api.FPush
	if i.Type == api.FSettings || i.Type == api.FPing || i.Type == api.FGoAway {
		i.Stream = 0
	}
	if odd() {
		i.Type = edge(dice)
	}
	if odd() {
		i.Stream = edge(dice)
	}
	i.Flags = number(i.Type == 10)
	i.End, i.EndHeads, i.Ack = is(heads || data), is(heads || push || i.Type == api.FContinue), is(i.Type == api.FPing || i.Type == api.FSettings)
	i.Padded, i.Priority = is(heads || data || push), is(heads)
	i.Pad = number(i.Padded)
	tied := i.Priority || i.Type == api.FPriority
	i.Alone, i.Dep, i.Weight = is(tied), number(tied), number(tied)
	i.Code, i.Last = number(i.Type == api.FReset || i.Type == api.FGoAway), number(i.Type == api.FGoAway)
	i.Inc, i.Promise = number(i.Type == api.FWindow), number(push)
	for range dice.Intn(3) {
		if i.Type == api.FSettings && !i.Ack || odd() {
			i.Settings = append(i.Settings, api.Setting{ID: edge(dice), Value: edge(dice)})
		}
	}
	switch {
	case i.Type == api.FPing && !odd():
		i.Data = make([]byte, 8)
		dice.Read(i.Data)
	case i.Type != api.FPriority && i.Type != api.FReset && i.Type != api.FSettings && i.Type != api.FWindow || odd():
		i.Data = someBytes(dice, 9)
	}
	return i
}

// TestBuildAny: P5.3, P5.6: Build takes what the second way of saying it lets be, and Open of it is what was built.
func TestBuildAny(t *testing.T) {
	dice := rand.New(rand.NewSource(3))
	built := map[int]int{}
	for range 200000 {
		if i := someInfo(dice); checkBuild(t, i) {
			built[i.Type]++
		}
	}
	for kind := range 11 {
		if built[kind] < 300 {
			t.Errorf("of type %d only %d were built", kind, built[kind])
		}
	}
}

// TestAllTheWay: P5.6, what was built, put, got and opened is what was built.
func TestAllTheWay(t *testing.T) {
	for _, x := range samples() {
		f, err := frame.Build(x.i)
		if err != nil {
			t.Fatal("Build", x.i, err)
		}
		b, err := frame.Put(nil, f)
		if err != nil {
			t.Fatal("Put", f, err)
		}
		got, _, err := frame.Get(b, api.MaxFrame)
		if err != nil {
			t.Fatal("Get", b, err)
		}
		opens(t, got, x.i)
	}
}
