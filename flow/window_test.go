package flow_test

import (
	"math"
	"testing"

	"parley/api"
	"parley/flow"
)

const most = api.MaxWindow

// window is a window with left bytes left, which may be below 0.
func window(t *testing.T, left int) *flow.Window {
	t.Helper()
	w, err := flow.New(max(0, left))
	if err != nil || w == nil {
		t.Fatalf("New(%d): %v", left, err)
	}
	if left < 0 {
		if err := w.Shift(left); err != nil {
			t.Fatalf("Shift(%d): %v", left, err)
		}
	}
	return w
}

// step is a call with a number, of a window that has so many bytes left ahead of it.
type step struct {
	left, n int
	want    error
	behind  int // what is left behind it
}

func check(t *testing.T, name string, call func(w *flow.Window, n int) error, steps []step) {
	t.Helper()
	for _, s := range steps {
		w := window(t, s.left)
		if err := call(w, s.n); err != s.want || w.Left() != s.behind {
			t.Errorf("%d left, %s(%d): %v, %d left; want %v, %d", s.left, name, s.n, err, w.Left(), s.want, s.behind)
		}
	}
}

// TestExample: the chapter's first two examples, call by call of one window.
func TestExample(t *testing.T) {
	w := window(t, 10)
	for i, x := range []struct {
		err, want error
		left      int
	}{
		{w.Take(4), nil, w.Left()},
		{w.Take(7), api.ErrWindow, w.Left()},
		{w.Give(most), api.ErrWindow, w.Left()},
		{w.Give(0), api.ErrNumber, w.Left()},
		{w.Take(-1), api.ErrNumber, w.Left()},
	} {
		if x.err != x.want || x.left != 6 {
			t.Errorf("call %d: %v, %d left; want %v, 6", i, x.err, x.left, x.want)
		}
	}
	if err := w.Shift(-20); err != nil || w.Left() != -14 {
		t.Errorf("Shift(-20): %v, %d left", err, w.Left())
	}
	if err := w.Take(0); err != nil || w.Left() != -14 {
		t.Errorf("Take(0): %v, %d left", err, w.Left())
	}
	if n := w.Room(5); n != 0 || w.Left() != -14 {
		t.Errorf("Room(5): %d, %d left", n, w.Left())
	}
}

// TestNew: P7.1, with its edges; beside an error there is no window (P0.3).
func TestNew(t *testing.T) {
	for _, n := range []int{0, 1, 10, 65535, most - 1, most} {
		if w, err := flow.New(n); err != nil || w == nil || w.Left() != n {
			t.Errorf("New(%d): %v, %v", n, w, err)
		}
	}
	for _, n := range []int{-1, -10, -most, math.MinInt, most + 1, 1 << 40, math.MaxInt} {
		if w, err := flow.New(n); err != api.ErrNumber || w != nil {
			t.Errorf("New(%d): %v, %v", n, w, err)
		}
	}
}

// TestApart: what one window's calls do, no other window shows (P0.5).
func TestApart(t *testing.T) {
	a, b := window(t, 5), window(t, 5)
	if a.Take(2) != nil || b.Give(1) != nil || a.Left() != 3 || b.Left() != 6 {
		t.Errorf("%d and %d left", a.Left(), b.Left())
	}
}

// TestTake: P7.2, Take, with its edges and wrong numbers.
func TestTake(t *testing.T) {
	check(t, "Take", (*flow.Window).Take, []step{
		{10, 4, nil, 6},
		{10, 10, nil, 0},
		{10, 9, nil, 1},
		{10, 11, api.ErrWindow, 10},
		{10, 0, nil, 10},
		{0, 0, nil, 0},
		{0, 1, api.ErrWindow, 0},
		{-1, 0, nil, -1},
		{-1, 1, api.ErrWindow, -1},
		{-most, 0, nil, -most},
		{-most, most, api.ErrWindow, -most},
		{most, most, nil, 0},
		{most, most + 1, api.ErrWindow, most},
		{most, math.MaxInt, api.ErrWindow, most},
		{-most, math.MaxInt, api.ErrWindow, -most},
		{10, -1, api.ErrNumber, 10},
		{-5, -1, api.ErrNumber, -5},
		{-5, -10, api.ErrNumber, -5},
		{0, math.MinInt, api.ErrNumber, 0},
		{-most, math.MinInt, api.ErrNumber, -most},
	})
}

// TestGive: P7.2, Give, with its edges and wrong numbers, which come ahead of what would be left.
func TestGive(t *testing.T) {
	check(t, "Give", (*flow.Window).Give, []step{
		{10, 1, nil, 11},
		{0, most, nil, most},
		{1, most - 1, nil, most},
		{1, most, api.ErrWindow, 1},
		{most, 1, api.ErrWindow, most},
		{most, most, api.ErrWindow, most},
		{most - 1, 1, nil, most},
		{most - 1, 2, api.ErrWindow, most - 1},
		{-5, 5, nil, 0},
		{-5, 4, nil, -1},
		{-5, 6, nil, 1},
		{-most, most, nil, 0},
		{-most, 1, nil, 1 - most},
		{10, 0, api.ErrNumber, 10},
		{10, -1, api.ErrNumber, 10},
		{-most, -1, api.ErrNumber, -most},
		{10, math.MinInt, api.ErrNumber, 10},
		{0, most + 1, api.ErrNumber, 0},
		{-most, most + 1, api.ErrNumber, -most},
		{most, most + 1, api.ErrNumber, most},
		{most, math.MaxInt, api.ErrNumber, most},
	})
}

// TestShift: P7.2, Shift, up and down, with its edges and wrong numbers, which come ahead of what would be left.
func TestShift(t *testing.T) {
	check(t, "Shift", (*flow.Window).Shift, []step{
		{10, 5, nil, 15},
		{10, -5, nil, 5},
		{10, 0, nil, 10},
		{10, -20, nil, -10},
		{0, most, nil, most},
		{0, -most, nil, -most},
		{1, most, api.ErrWindow, 1},
		{most, 1, api.ErrWindow, most},
		{most, 0, nil, most},
		{most, -most, nil, 0},
		{most, most, api.ErrWindow, most},
		{-1, -most, api.ErrWindow, -1},
		{-1, 1 - most, nil, -most},
		{-most, -1, api.ErrWindow, -most},
		{-most, 0, nil, -most},
		{-most, most, nil, 0},
		{-most, -most, api.ErrWindow, -most},
		{0, most + 1, api.ErrNumber, 0},
		{0, -most - 1, api.ErrNumber, 0},
		{-most, most + 1, api.ErrNumber, -most},
		{most, -most - 1, api.ErrNumber, most},
		{most, math.MaxInt, api.ErrNumber, most},
		{-most, math.MinInt, api.ErrNumber, -most},
		{10, 1 << 40, api.ErrNumber, 10},
	})
}

// TestRoom: P7.3, with its edges; asking takes nothing.
func TestRoom(t *testing.T) {
	for _, x := range []struct{ left, n, want int }{
		{10, 5, 5}, {10, 10, 10}, {10, 11, 10}, {10, 0, 0}, {10, -1, 0}, {10, math.MinInt, 0}, {10, math.MaxInt, 10},
		{0, 0, 0}, {0, 1, 0}, {0, -1, 0},
		{-1, 5, 0}, {-1, 0, 0}, {-5, -3, 0}, {-3, -5, 0}, {-most, most, 0}, {-most, math.MinInt, 0},
		{most, most, most}, {most, most + 1, most}, {most, math.MaxInt, most}, {most, 1, 1}, {1, 1 << 32, 1},
	} {
		w := window(t, x.left)
		if n := w.Room(x.n); n != x.want || w.Left() != x.left {
			t.Errorf("%d left, Room(%d): %d, %d left; want %d", x.left, x.n, n, w.Left(), x.want)
		}
	}
}
