package flow_test

import (
	"math"
	"testing"

	"parley/api"
	"parley/flow"
)

// TestPairExample: the chapter's third example.
func TestPairExample(t *testing.T) {
	a, b := window(t, 5), window(t, 3)
	p := flow.Both(a, b)
	if n := p.Room(9); n != 3 {
		t.Errorf("Room(9): %d", n)
	}
	if err := p.Take(4); err != api.ErrWindow || a.Left() != 5 || b.Left() != 3 {
		t.Errorf("Take(4): %v, %d and %d left", err, a.Left(), b.Left())
	}
	if err := p.Take(3); err != nil || a.Left() != 2 || b.Left() != 0 {
		t.Errorf("Take(3): %v, %d and %d left", err, a.Left(), b.Left())
	}
}

// TestPairRoom: P7.4, Room: the less of both, whichever of them has it.
func TestPairRoom(t *testing.T) {
	for _, x := range []struct{ a, b, n, want int }{
		{5, 3, 9, 3}, {5, 3, 4, 3}, {5, 3, 3, 3}, {5, 3, 2, 2}, {5, 3, 0, 0}, {5, 3, -1, 0}, {5, 3, math.MinInt, 0},
		{5, 5, 9, 5}, {0, 3, 9, 0}, {-2, 3, 9, 0}, {-2, -3, 9, 0}, {-2, -3, -1, 0}, {-most, most, most, 0},
		{most, most, math.MaxInt, most}, {most, 1, math.MaxInt, 1},
	} {
		for _, turn := range []bool{false, true} {
			a, b := window(t, x.a), window(t, x.b)
			p := flow.Both(a, b)
			if turn {
				p = flow.Both(b, a)
			}
			if n := p.Room(x.n); n != x.want || a.Left() != x.a || b.Left() != x.b {
				t.Errorf("%d and %d left, Room(%d): %d, %d and %d left; want %d", x.a, x.b, x.n, n, a.Left(), b.Left(), x.want)
			}
		}
	}
}

// TestPairTake: P7.4, Take: both or neither, whichever of them has less.
func TestPairTake(t *testing.T) {
	for _, x := range []struct {
		a, b, n int
		want    error
		takes   int
	}{
		{5, 3, 3, nil, 3}, {5, 3, 2, nil, 2}, {5, 3, 0, nil, 0}, {5, 5, 5, nil, 5}, {most, most, most, nil, most},
		{5, 3, 4, api.ErrWindow, 0}, {5, 3, 6, api.ErrWindow, 0}, {0, 3, 1, api.ErrWindow, 0}, {-1, 3, 1, api.ErrWindow, 0},
		{-1, 3, 0, nil, 0}, {-1, -3, 0, nil, 0}, {-most, -most, 0, nil, 0}, {0, 0, 0, nil, 0},
		{-most, most, most, api.ErrWindow, 0}, {most, most, most + 1, api.ErrWindow, 0}, {most, most, math.MaxInt, api.ErrWindow, 0},
		{5, 3, -1, api.ErrNumber, 0}, {-2, -2, -1, api.ErrNumber, 0}, {-most, 3, math.MinInt, api.ErrNumber, 0},
	} {
		for _, turn := range []bool{false, true} {
			a, b := window(t, x.a), window(t, x.b)
			p := flow.Both(a, b)
			if turn {
				p = flow.Both(b, a)
			}
			if err := p.Take(x.n); err != x.want || a.Left() != x.a-x.takes || b.Left() != x.b-x.takes {
				t.Errorf("%d and %d left, Take(%d): %v, %d and %d left; want %v", x.a, x.b, x.n, err, a.Left(), b.Left(), x.want)
			}
		}
	}
}

// TestPairOfOne: P7.4: a pair of the same window takes once.
func TestPairOfOne(t *testing.T) {
	w := window(t, 5)
	p := flow.Both(w, w)
	if n := p.Room(9); n != 5 {
		t.Errorf("Room(9): %d", n)
	}
	if err := p.Take(3); err != nil || w.Left() != 2 {
		t.Errorf("Take(3): %v, %d left", err, w.Left())
	}
	if err := p.Take(3); err != api.ErrWindow || w.Left() != 2 {
		t.Errorf("Take(3) again: %v, %d left", err, w.Left())
	}
	if err := p.Take(-1); err != api.ErrNumber || w.Left() != 2 {
		t.Errorf("Take(-1): %v, %d left", err, w.Left())
	}
	if err := p.Take(2); err != nil || w.Left() != 0 {
		t.Errorf("Take(2): %v, %d left", err, w.Left())
	}
	if err := p.Take(0); err != nil || w.Left() != 0 {
		t.Errorf("Take(0): %v, %d left", err, w.Left())
	}
}

// TestPairsAlike: P7.4: two windows that have as much left are two, not one.
func TestPairsAlike(t *testing.T) {
	a, b := window(t, 5), window(t, 5)
	if err := flow.Both(a, b).Take(2); err != nil || a.Left() != 3 || b.Left() != 3 {
		t.Errorf("Take(2): %v, %d and %d left", err, a.Left(), b.Left())
	}
}

// TestPairGoesAlong: P7.4: a pair is of the windows themselves: it knows what becomes of them, by their own calls and by other pairs.
func TestPairGoesAlong(t *testing.T) {
	all, one, two := window(t, 10), window(t, 8), window(t, 8)
	p, q := flow.Both(all, one), flow.Both(all, two)
	if err := p.Take(7); err != nil || q.Room(9) != 3 || p.Room(9) != 1 {
		t.Errorf("Take(7): %v; rooms %d and %d", err, p.Room(9), q.Room(9))
	}
	if err := q.Take(4); err != api.ErrWindow || all.Left() != 3 || two.Left() != 8 {
		t.Errorf("Take(4): %v, %d and %d left", err, all.Left(), two.Left())
	}
	if all.Give(20) != nil || one.Shift(-5) != nil || two.Take(1) != nil {
		t.Errorf("%d, %d and %d left", all.Left(), one.Left(), two.Left())
	}
	if p.Room(9) != 0 || q.Room(9) != 7 || p.Take(1) != api.ErrWindow || q.Take(7) != nil {
		t.Errorf("rooms %d and %d", p.Room(9), q.Room(9))
	}
	if all.Left() != 16 || one.Left() != -4 || two.Left() != 0 {
		t.Errorf("%d, %d and %d left", all.Left(), one.Left(), two.Left())
	}
}
