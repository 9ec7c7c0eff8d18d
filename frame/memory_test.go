package frame_test

import (
	"bytes"
	"slices"
	"testing"

	"parley/api"
	"parley/frame"
)

// roomy is l with room behind it in which marks stand, and a look that tells whether all of it is as it was.
func roomy[T comparable](l []T, mark T) ([]T, func() bool) {
	whole := slices.Concat(l, slices.Repeat([]T{mark}, 40))
	was := slices.Clone(whole)
	return whole[:len(l)], func() bool { return slices.Equal(whole, was) }
}

// spoil writes over all of a list, its spare room too.
func spoil[T any](l []T, mark T) {
	l = l[:cap(l)]
	for i := range l {
		l[i] = mark
	}
}

// TestMemoryOfPut: P5.5, P0.4: b and the payload are as they were, what lies behind them too; the bytes are new memory.
func TestMemoryOfPut(t *testing.T) {
	for _, start := range [][]byte{nil, {1, 2, 3}} {
		for _, payload := range [][]byte{nil, {7}, run(300, 7)} {
			want := join(start, []byte{0, byte(len(payload) >> 8), byte(len(payload)), 0, 0, 0, 0, 0, 3}, payload)
			b, bWhole := roomy(start, 201)
			p, pWhole := roomy(payload, 202)
			f := api.Frame{Stream: 3, Payload: p}
			first, _ := frame.Put(b, f)
			second, _ := frame.Put(b, f)
			spoil(second, 99)
			if !bWhole() || !pWhole() || !bytes.Equal(first, want) {
				t.Errorf("Put(%v, %v) shares memory", start, payload)
			}
			spoil(b, 98)
			spoil(p, 98)
			if !bytes.Equal(first, want) {
				t.Errorf("Put(%v, %v) keeps memory", start, payload)
			}
		}
	}
	b, whole := roomy([]byte{1}, 201)
	if _, err := frame.Put(b, api.Frame{Type: 256}); err == nil || !whole() {
		t.Error("Put that has an error changes b")
	}
}

// TestMemoryOfGet: P5.5, P0.4: b is as it was, what lies behind it isn't read, and each payload is new memory.
func TestMemoryOfGet(t *testing.T) {
	for _, payload := range [][]byte{nil, {7}, run(300, 7)} {
		start := join([]byte{0, byte(len(payload) >> 8), byte(len(payload)), 0, 0, 0, 0, 0, 3}, payload)
		b, whole := roomy(start, 7)
		first, _, _ := frame.Get(b, 300)
		second, _, _ := frame.Get(b, 300)
		spoil(second.Payload, 99)
		if !whole() || !bytes.Equal(first.Payload, payload) {
			t.Error("Get shares memory", len(payload))
		}
		spoil(b, 98)
		if !bytes.Equal(first.Payload, payload) {
			t.Error("Get keeps memory", len(payload))
		}
		for n := range start {
			cut, _ := roomy(start[:n], 0)
			missed(t, cut, 300, api.ErrEnd)
			samePlaced(t, all(cut, 300), nil)
		}
	}
}

// TestMemoryOfFrames: P5.5, P0.4: what a caller writes shows in no frame that is told behind it, nor when they are told again.
func TestMemoryOfFrames(t *testing.T) {
	start := join([]byte{0, 0, 2, 0, 0, 0, 0, 0, 3, 65, 66}, []byte{0, 0, 0, 4, 0, 0, 0, 0, 0}, []byte{0, 0, 1, 0, 0, 0, 0, 0, 3, 67})
	want := all(bytes.Clone(start), 9)
	b, whole := roomy(start, 0)
	frames := frame.Frames(b, 9)
	for range frames {
	}
	if !whole() || len(want) != 3 {
		t.Error("Frames changes what it is given", len(want))
	}
	spoil(b, 99)
	for range 2 {
		var got []placed
		for at, f := range frames {
			got = append(got, placed{at, f})
		}
		samePlaced(t, got, want)
		for i := range got {
			spoil(got[i].f.Payload, 98)
			samePlaced(t, got[i+1:], want[i+1:])
		}
	}
}

// TestMemoryOfOpen: P5.5, P0.4: the payload is as it was and isn't kept; Data and Settings are new memory.
func TestMemoryOfOpen(t *testing.T) {
	for _, x := range samples() {
		payload, whole := roomy(x.f.Payload, 7)
		f := x.f
		f.Payload = payload
		first, err := frame.Open(f)
		second, _ := frame.Open(f)
		spoil(second.Data, 99)
		spoil(second.Settings, api.Setting{ID: 99})
		if err != nil || !whole() || !sameInfo(first, x.i) {
			t.Errorf("Open(%.60v) shares memory", x.f)
		}
		spoil(payload, 98)
		if !sameInfo(first, x.i) {
			t.Errorf("Open(%.60v) keeps memory", x.f)
		}
	}
	for n := range 8 {
		payload, _ := roomy(make([]byte, n), 0) // what is missing stands behind it
		refused(t, api.Frame{Type: api.FPing, Payload: payload}, api.CSize, 0)
		refused(t, api.Frame{Type: api.FGoAway, Payload: payload}, api.CSize, 0)
	}
}

// TestMemoryOfBuild: P5.5, P0.4: Data and Settings are as they were and aren't kept; the payload is new memory.
func TestMemoryOfBuild(t *testing.T) {
	for _, x := range samples() {
		i := x.i
		data, dataWhole := roomy(x.i.Data, 201)
		settings, settingsWhole := roomy(x.i.Settings, api.Setting{ID: 5, Value: 1})
		i.Data, i.Settings = data, settings
		first, err := frame.Build(i)
		second, _ := frame.Build(i)
		spoil(second.Payload, 99)
		if err != nil || !dataWhole() || !settingsWhole() || !sameFrame(first, x.f) {
			t.Errorf("Build(%+.60v) shares memory", x.i)
		}
		spoil(data, 98)
		spoil(settings, api.Setting{ID: 98})
		if !sameFrame(first, x.f) {
			t.Errorf("Build(%+.60v) keeps memory", x.i)
		}
	}
}

// TestMemoryOfPreface: P5.5, P0.4: each preface is new memory.
func TestMemoryOfPreface(t *testing.T) {
	first := frame.Preface()
	was := bytes.Clone(first)
	spoil(frame.Preface(), 99)
	if !bytes.Equal(first, was) || !bytes.Equal(frame.Preface(), was) {
		t.Error("Preface shares memory")
	}
}
