package flow

import "parley/api"

// Pair is two windows that are taken from at once: what its windows say to Room and to Take, each of them once.
type Pair struct {
	rooms []func(n int) int
	takes []func(n int) error
}

// Both is the pair of a and b, which may be the same window.
func Both(a, b *Window) *Pair {
	p := &Pair{}
	p.add(a)
	if b != a {
		p.add(b)
	}
	return p
}

// add lays the calls of w, bound to it, behind those that are there.
func (p *Pair) add(w *Window) {
	p.rooms = append(p.rooms, w.Room)
	p.takes = append(p.takes, w.Take)
}

// Room is how many of n bytes may be taken from both.
func (p *Pair) Room(n int) int {
	for _, room := range p.rooms {
		n = room(n)
	}
	return n
}

// Take makes both n bytes less.
func (p *Pair) Take(n int) error {
	switch {
	case n < 0:
		return api.ErrNumber
	case p.Room(n) < n:
		return api.ErrWindow
	}
	// None has an error now: both were asked for room ahead, so that neither takes what the other one doesn't let come.
	for _, take := range p.takes {
		take(n)
	}
	return nil
}
