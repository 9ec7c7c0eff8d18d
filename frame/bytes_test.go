package frame_test

import (
	"bytes"
	"testing"

	"parley/api"
	"parley/frame"
)

// placed is a frame with the place of its first byte.
type placed struct {
	at int
	f  api.Frame
}

// all is what Frames tells.
func all(b []byte, most int) []placed {
	var out []placed
	for at, f := range frame.Frames(b, most) {
		out = append(out, placed{at, f})
	}
	return out
}

func samePlaced(t *testing.T, got, want []placed) {
	t.Helper()
	if len(got) != len(want) {
		t.Errorf("Frames: %.300v; want %.300v", got, want)
		return
	}
	for i := range got {
		if got[i].at != want[i].at || !sameFrame(got[i].f, want[i].f) {
			t.Errorf("Frames: %.300v; want %.300v", got[i], want[i])
		}
	}
}

// gets holds Get to the frame.
func gets(t *testing.T, b []byte, most int, want api.Frame, size int) {
	t.Helper()
	if f, n, err := frame.Get(b, most); !sameFrame(f, want) || n != size || err != nil {
		t.Errorf("Get(%.40v, %d) = %.200v, %d, %v; want %.200v, %d", b, most, f, n, err, want, size)
	}
}

// missed holds Get to the error, with nothing beside it.
func missed(t *testing.T, b []byte, most int, want error) {
	t.Helper()
	if f, n, err := frame.Get(b, most); !sameFrame(f, api.Frame{}) || n != 0 || err != want {
		t.Errorf("Get(%.40v, %d) = %.200v, %d, %v; want %v", b, most, f, n, err, want)
	}
}

// TestExamples: P5.1, the chapter's examples.
func TestExamples(t *testing.T) {
	b, err := frame.Put(nil, api.Frame{Type: api.FPing, Flags: api.FlagAck, Payload: []byte{1, 2, 3, 4, 5, 6, 7, 8}})
	if want := []byte{0, 0, 8, 6, 1, 0, 0, 0, 0, 1, 2, 3, 4, 5, 6, 7, 8}; !bytes.Equal(b, want) || err != nil {
		t.Errorf("Put = %v, %v; want %v", b, err, want)
	}
	one := []byte{0, 0, 1, 0, 1, 128, 0, 0, 3, 65}
	gets(t, one, 16384, api.Frame{Flags: 1, Stream: 3, Payload: []byte("A")}, 10)
	missed(t, one[:9], 16384, api.ErrEnd)
	missed(t, []byte{0, 64, 1, 0, 0, 0, 0, 0, 3}, 16384, api.ErrLong)
	missed(t, []byte{0, 0}, 16384, api.ErrEnd)
}

// TestPut: P5.1, each number from its least to its greatest, its greatest byte first, behind what there was.
func TestPut(t *testing.T) {
	for _, x := range []struct {
		f    api.Frame
		head []byte
	}{
		{api.Frame{}, []byte{0, 0, 0, 0, 0, 0, 0, 0, 0}},
		{api.Frame{Type: 1}, []byte{0, 0, 0, 1, 0, 0, 0, 0, 0}},
		{api.Frame{Type: 255}, []byte{0, 0, 0, 255, 0, 0, 0, 0, 0}},
		{api.Frame{Flags: 1}, []byte{0, 0, 0, 0, 1, 0, 0, 0, 0}},
		{api.Frame{Flags: 255}, []byte{0, 0, 0, 0, 255, 0, 0, 0, 0}},
		{api.Frame{Stream: 1}, []byte{0, 0, 0, 0, 0, 0, 0, 0, 1}},
		{api.Frame{Stream: 0x01020304}, []byte{0, 0, 0, 0, 0, 1, 2, 3, 4}},
		{api.Frame{Stream: api.MaxStream}, []byte{0, 0, 0, 0, 0, 127, 255, 255, 255}},
		{api.Frame{Type: api.FWindow, Payload: []byte{9}}, []byte{0, 0, 1, 8, 0, 0, 0, 0, 0}},
		{api.Frame{Payload: run(255, 7)}, []byte{0, 0, 255, 0, 0, 0, 0, 0, 0}},
		{api.Frame{Payload: run(256, 7)}, []byte{0, 1, 0, 0, 0, 0, 0, 0, 0}},
		{api.Frame{Payload: run(65536+2*256+3, 7)}, []byte{1, 2, 3, 0, 0, 0, 0, 0, 0}},
		{api.Frame{Type: 2, Flags: 3, Stream: 4, Payload: run(1<<24-1, 7)}, []byte{255, 255, 255, 2, 3, 0, 0, 0, 4}},
	} {
		for _, b := range [][]byte{nil, {}, {0}, {9, 8, 7}, run(100, 255)} {
			if got, err := frame.Put(b, x.f); !bytes.Equal(got, join(b, x.head, x.f.Payload)) || err != nil {
				t.Errorf("Put(%.20v, %.40v) = %.40v, %v; want %v ahead of the payload", b, x.f, got, err, x.head)
			}
		}
	}
}

// TestPutFaults: P5.1, what does not fit, and P0.3: no bytes beside the error.
func TestPutFaults(t *testing.T) {
	great := make([]byte, 1<<24)
	for _, f := range []api.Frame{
		{Type: -1}, {Type: 256}, {Type: -greatest - 1}, {Type: greatest}, {Type: 1 << 32},
		{Flags: -1}, {Flags: 256}, {Flags: -greatest - 1}, {Flags: greatest}, {Flags: 1 << 32},
		{Stream: -1}, {Stream: api.MaxStream + 1}, {Stream: 1 << 32}, {Stream: 1<<32 + 1}, {Stream: -greatest - 1}, {Stream: greatest},
		{Payload: great}, {Payload: make([]byte, 1<<24+1)}, {Type: 256, Flags: -1, Stream: -1, Payload: great},
	} {
		for _, b := range [][]byte{nil, {1, 2}} {
			if got, err := frame.Put(b, f); len(got) != 0 || err != api.ErrFrame {
				t.Errorf("Put(%v, %.40v) = %.40v, %v; want ErrFrame", b, f, got, err)
			}
		}
	}
}

// TestGet: P5.1, each number, whatever stands behind; the greatest bit of Stream is not looked at.
func TestGet(t *testing.T) {
	for _, behind := range [][]byte{nil, {0}, run(20, 255)} {
		for _, x := range []struct {
			head []byte
			want api.Frame
		}{
			{[]byte{0, 0, 0, 0, 0, 0, 0, 0, 0}, api.Frame{}},
			{[]byte{0, 0, 0, 255, 254, 1, 2, 3, 4}, api.Frame{Type: 255, Flags: 254, Stream: 0x01020304}},
			{[]byte{0, 0, 0, 9, 0, 127, 255, 255, 255}, api.Frame{Type: 9, Stream: api.MaxStream}},
			{[]byte{0, 0, 0, 9, 0, 255, 255, 255, 255}, api.Frame{Type: 9, Stream: api.MaxStream}},
			{[]byte{0, 0, 0, 9, 0, 128, 0, 0, 0}, api.Frame{Type: 9}},
			{[]byte{0, 0, 2, 3, 4, 0, 0, 0, 5}, api.Frame{Type: 3, Flags: 4, Stream: 5, Payload: run(2, 6)}},
			{[]byte{0, 1, 0, 0, 0, 0, 0, 0, 5}, api.Frame{Stream: 5, Payload: run(256, 6)}},
			{[]byte{1, 2, 3, 0, 0, 0, 0, 0, 5}, api.Frame{Stream: 5, Payload: run(65536+2*256+3, 6)}},
			{[]byte{255, 255, 255, 0, 0, 0, 0, 0, 5}, api.Frame{Stream: 5, Payload: run(1<<24-1, 6)}},
		} {
			n := len(x.want.Payload)
			b := join(x.head, x.want.Payload, behind)
			for _, most := range []int{n, n + 1, 1 << 24, greatest} {
				gets(t, b, most, x.want, 9+n)
			}
			for _, most := range []int{n - 1, -1, -greatest - 1} {
				missed(t, b, most, api.ErrLong)
			}
		}
	}
}

// TestGetFaults: P5.1, every piece that is too short, and which error goes first.
func TestGetFaults(t *testing.T) {
	b := join([]byte{0, 1, 2, 0, 0, 0, 0, 0, 3}, run(258, 7))
	for n := range b {
		if n < 9 {
			missed(t, b[:n], 16384, api.ErrEnd)
			missed(t, b[:n], 257, api.ErrEnd) // ahead of ErrLong
			missed(t, b[:n], -1, api.ErrEnd)
			continue
		}
		missed(t, b[:n], 16384, api.ErrEnd)
		missed(t, b[:n], 258, api.ErrEnd)
		missed(t, b[:n], 257, api.ErrLong) // ahead of ErrEnd
		missed(t, b[:n], 0, api.ErrLong)
	}
	missed(t, nil, 0, api.ErrEnd)
	missed(t, run(9, 255), 1<<24-2, api.ErrLong)
	missed(t, run(9, 255), 1<<24-1, api.ErrEnd)
}

// TestFrames: P5.1, the frames with their places, up to the first that Get has an error for.
func TestFrames(t *testing.T) {
	put := []api.Frame{
		{Type: api.FData, Flags: 1, Stream: 3, Payload: []byte("AB")},
		{Type: api.FSettings},
		{Type: 77, Flags: 255, Stream: api.MaxStream, Payload: run(300, 1)},
		{Type: api.FPing, Payload: run(8, 2)},
	}
	var b []byte
	var want []placed
	for _, f := range put {
		want = append(want, placed{len(b), f})
		b, _ = frame.Put(b, f)
	}
	samePlaced(t, all(b, 300), want)
	samePlaced(t, all(b, 299), want[:2])
	samePlaced(t, all(b, 1), nil)
	samePlaced(t, all(b, -1), nil)
	samePlaced(t, all(nil, 300), nil)
	samePlaced(t, all(b[1:], 0), nil)
	for n := range len(b) + 1 {
		whole := 0
		for whole < len(want) && n >= want[whole].at+9+len(want[whole].f.Payload) {
			whole++
		}
		samePlaced(t, all(b[:n], 300), want[:whole])
	}
	samePlaced(t, all(join(b, []byte{0, 1, 45, 0, 0, 0, 0, 0, 0}, run(301, 0), b), 300), want)
}

// TestFramesAgain: P5.1, gone over again and again, also within itself, and left early.
func TestFramesAgain(t *testing.T) {
	one := []byte{0, 0, 1, 0, 0, 0, 0, 0, 3, 65}
	b := bytes.Repeat(one, 5)
	frames := frame.Frames(b, 1)
	f := api.Frame{Stream: 3, Payload: []byte("A")}
	for stop := range 6 {
		var got, want []placed
		for at, f := range frames {
			got = append(got, placed{at, f})
			if len(got) > stop {
				break
			}
		}
		for i := range min(stop+1, 5) {
			want = append(want, placed{10 * i, f})
		}
		samePlaced(t, got, want)
	}
	pairs := 0
	for at := range frames {
		for inner := range frames {
			if inner < at {
				pairs++
			}
		}
	}
	if pairs != 10 {
		t.Errorf("Frames within itself: %d pairs; want 10", pairs)
	}
}

// TestPreface: P5.4.
func TestPreface(t *testing.T) {
	want := []byte{80, 82, 73, 32, 42, 32, 72, 84, 84, 80, 47, 50, 46, 48, 13, 10, 13, 10, 83, 77, 13, 10, 13, 10}
	if b := frame.Preface(); !bytes.Equal(b, want) {
		t.Errorf("Preface() = %q", b)
	}
}
