package flow_test

import (
	"math"
	"math/big"
	"math/rand"
	"testing"

	"parley/api"
	"parley/flow"
)

// account is a second way of saying a window: what it began with, and what went in and out, in numbers without bounds.
type account struct{ begin, in, out *big.Int }

func newAccount(n int) *account {
	return &account{big.NewInt(int64(n)), new(big.Int), new(big.Int)}
}

func (a *account) left() *big.Int {
	sum := new(big.Int).Add(a.begin, a.in)
	return sum.Sub(sum, a.out)
}

// has: is at least n left?
func (a *account) has(n int) bool { return n == 0 || a.left().Cmp(big.NewInt(int64(n))) >= 0 }

func (a *account) take(n int) error {
	if n < 0 {
		return api.ErrNumber
	}
	if !a.has(n) {
		return api.ErrWindow
	}
	a.out.Add(a.out, big.NewInt(int64(n)))
	return nil
}

func (a *account) shift(by, least int) error {
	if by < least || by > most {
		return api.ErrNumber
	}
	left := a.left()
	left.Add(left, big.NewInt(int64(by)))
	if left.CmpAbs(big.NewInt(most)) > 0 {
		return api.ErrWindow
	}
	a.in.Add(a.in, big.NewInt(int64(by)))
	return nil
}

func (a *account) room(n int) int {
	if n < 0 || a.left().Sign() < 0 {
		return 0
	}
	if a.has(n) {
		return n
	}
	return int(a.left().Int64())
}

// someNumber is a number that lies at an edge, or near 0, or near what is left.
func someNumber(dice *rand.Rand, left int) int {
	near := dice.Intn(5) - 2
	switch dice.Intn(8) {
	case 0:
		return most + near
	case 1:
		return -most + near
	case 2:
		return left + near
	case 3:
		return most - left + near
	case 4:
		return dice.Intn(2*most) - most
	case 5:
		return []int{math.MinInt, math.MaxInt, math.MinInt + 1, 1 << 32, -1 << 32}[dice.Intn(5)]
	}
	return near * dice.Intn(100)
}

// TestAccounts: P7.5, and P7.2 to P7.4 again: two windows and their pairs, held against accounts, whatever comes.
func TestAccounts(t *testing.T) {
	dice := rand.New(rand.NewSource(7))
	for range 300 {
		begins := []int{dice.Intn(most), dice.Intn(200)}
		windows := []*flow.Window{window(t, begins[0]), window(t, begins[1])}
		accounts := []*account{newAccount(begins[0]), newAccount(begins[1])}
		for range 100 {
			i, j := dice.Intn(2), dice.Intn(2)
			w, a := windows[i], accounts[i]
			n := someNumber(dice, w.Left())
			p := flow.Both(w, windows[j])
			if got, want := p.Room(n), min(a.room(n), accounts[j].room(n)); got != want {
				t.Fatalf("pair of %d and %d: Room(%d): %d, want %d", w.Left(), windows[j].Left(), n, got, want)
			}
			if got, want := w.Room(n), a.room(n); got != want {
				t.Fatalf("window of %d: Room(%d): %d, want %d", w.Left(), n, got, want)
			}
			what := dice.Intn(4)
			ahead, got := w.Left(), error(nil)
			var want error
			switch what {
			case 0:
				got, want = w.Take(n), a.take(n)
			case 1:
				got, want = w.Give(n), a.shift(n, 1)
			case 2:
				got, want = w.Shift(n), a.shift(n, -most)
			case 3:
				got = p.Take(n)
				if other := accounts[j]; n >= 0 && !other.has(n) {
					want = api.ErrWindow
				} else if want = a.take(n); want == nil && i != j {
					want = other.take(n)
				}
			}
			if got != want {
				t.Fatalf("call %d with %d of windows %d, %d (%d left): %v, want %v", what, n, i, j, ahead, got, want)
			}
			for k := range windows {
				if left := accounts[k].left(); left.Cmp(big.NewInt(int64(windows[k].Left()))) != 0 {
					t.Fatalf("call %d with %d of windows %d, %d: %d left of %d, want %v", what, n, i, j, windows[k].Left(), k, left)
				}
			}
		}
	}
}

// TestRoomIsTaken: P7.5: what Room answers can be taken, of a window and of a pair, whatever is left.
func TestRoomIsTaken(t *testing.T) {
	numbers := []int{math.MinInt, -most, -1, 0, 1, 2, 99, 100, 101, most - 1, most, most + 1, math.MaxInt}
	lefts := []int{-most, -100, -1, 0, 1, 99, 100, 101, most - 1, most}
	for _, n := range numbers {
		for _, left := range lefts {
			w := window(t, left)
			room := w.Room(n)
			if err := w.Take(room); err != nil || w.Left() != left-room {
				t.Errorf("%d left, Take of Room(%d), %d: %v, %d left", left, n, room, err, w.Left())
			}
			for _, other := range lefts {
				a, b := window(t, left), window(t, other)
				p := flow.Both(a, b)
				room := p.Room(n)
				if err := p.Take(room); err != nil || a.Left() != left-room || b.Left() != other-room {
					t.Errorf("%d and %d left, Take of Room(%d), %d: %v, %d and %d left", left, other, n, room, err, a.Left(), b.Left())
				}
			}
		}
	}
}
