package conn

import (
	"cmp"
	"slices"

	"parley/api"
	"parley/flow"
)

// phase is how far a side of a stream is.
type phase int

const (
	fresh    phase = iota // it has not answered yet
	open                  // it may send
	asked                 // the own side: to end, behind what waits
	trailing              // likewise, by trailers
	ended
)

// stream is a stream that is there.
type stream struct {
	number     int
	own, other phase
	in, out    *flow.Window // of what may come, of what may be sent
	held       int          // bytes that were told and not eaten
	waits      []byte       // what was sent and not put out yet
	trailers   []api.Header // what stands behind that
}

// find is the stream of that number, or nil, if it isn't there.
func (c *Conn) find(number int) *stream {
	if at, ok := c.place(number); ok {
		return c.streams[at]
	}
	return nil
}

// place is where the stream of that number stands among those that are there, or would stand.
func (c *Conn) place(number int) (int, bool) {
	return slices.BinarySearchFunc(c.streams, number, func(s *stream, n int) int { return cmp.Compare(s.number, n) })
}

// idle tells whether no stream of that number was opened; 0, too, is none.
func (c *Conn) idle(number int) bool {
	return number%2 == 0 || number > c.greatest
}

// enter makes a stream that is there, above all others.
func (c *Conn) enter(number int, own, other phase) *stream {
	// None has an error: both numbers are bounded where they come in.
	in, _ := flow.New(c.firstIn)
	out, _ := flow.New(c.firstOut)
	s := &stream{number: number, own: own, other: other, in: in, out: out}
	c.streams = append(c.streams, s)
	return s
}

func (c *Conn) endOwn(s *stream) {
	s.own = ended
	c.leaveEnded(s)
}

func (c *Conn) endOther(s *stream) {
	s.other = ended
	c.leaveEnded(s)
}

func (c *Conn) leaveEnded(s *stream) {
	if s.own == ended && s.other == ended {
		c.leave(s)
	}
}

// leave takes s from those that are there.
func (c *Conn) leave(s *stream) {
	at, _ := c.place(s.number)
	c.streams = slices.Delete(c.streams, at, at+1)
	c.giveBack(s.held)
}
