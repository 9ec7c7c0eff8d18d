package conn

import (
	"math"
	"slices"

	"parley/api"
	"parley/frame"
	"parley/head"
	"parley/hpack"
)

const (
	mostCode  = math.MaxUint32
	pingBytes = 8
)

// Open opens a stream by a request, and answers its number.
func (c *Conn) Open(l []api.Header, end bool) (int, error) {
	number := c.greatest + 1 + c.greatest%2 // the next odd one
	switch {
	case c.dead:
		return 0, api.ErrGone
	case c.side != api.Client:
		return 0, api.ErrRole
	case c.away || c.bye:
		return 0, api.ErrGone
	case len(c.streams) >= c.most || number > api.MaxStream:
		return 0, api.ErrMany
	}
	if _, err := head.Open(l); err != nil {
		return 0, err
	}
	if hpack.Size(l) > api.MaxList {
		return 0, api.ErrList
	}
	c.greatest = number
	c.putList(c.enter(number, open, fresh), l, end)
	return number, nil
}

// Answer answers a request.
func (c *Conn) Answer(stream int, l []api.Header, end bool) error {
	s := c.find(stream)
	switch {
	case c.dead:
		return api.ErrGone
	case c.side != api.Server:
		return api.ErrRole
	case s == nil || s.own != fresh:
		return api.ErrStream
	}
	if r, err := head.OpenAnswer(l); err != nil || r.Status < leastFinal {
		return api.ErrHead
	}
	if hpack.Size(l) > api.MaxList {
		return api.ErrList
	}
	s.own = open
	c.putList(s, l, end)
	return nil
}

// Send lets b wait behind what waits; with end nothing more will come.
func (c *Conn) Send(stream int, b []byte, end bool) error {
	s, err := c.sender(stream)
	if err != nil {
		return err
	}
	s.waits = append(s.waits, b...)
	if end {
		s.own = asked
	}
	return nil
}

// Trail ends the own side by trailers, behind what waits.
func (c *Conn) Trail(stream int, l []api.Header) error {
	s, err := c.sender(stream)
	if err != nil {
		return err
	}
	if err := head.Trailers(l); err != nil {
		return err
	}
	if hpack.Size(l) > api.MaxList {
		return api.ErrList
	}
	s.own, s.trailers = trailing, slices.Clone(l)
	return nil
}

// Reset ends both sides of a stream at once.
func (c *Conn) Reset(stream, code int) error {
	s, err := c.there(stream)
	if err != nil {
		return err
	}
	if !within(code, mostCode) {
		return api.ErrNumber
	}
	c.put(frame.Info{Type: api.FReset, Stream: stream, Code: code})
	c.leave(s)
	return nil
}

// Ate lets n bytes more come, as so many that were told are no longer held.
func (c *Conn) Ate(stream, n int) error {
	s, err := c.there(stream)
	if err != nil {
		return err
	}
	if n < 1 || n > s.held {
		return api.ErrNumber
	}
	s.held -= n
	c.giveBack(n)
	if s.other != ended {
		c.give(stream, s.in, n)
	}
	return nil
}

// Ping asks the other side for a Pong with b.
func (c *Conn) Ping(b []byte) error {
	if c.dead {
		return api.ErrGone
	}
	if len(b) != pingBytes {
		return api.ErrNumber
	}
	c.put(frame.Info{Type: api.FPing, Data: b})
	return nil
}

// Bye tells the other side that nothing will be opened any more.
func (c *Conn) Bye(code int) error {
	if c.dead {
		return api.ErrGone
	}
	if !within(code, mostCode) {
		return api.ErrNumber
	}
	c.putGoAway(code)
	c.bye = true
	return nil
}

// there is the stream of that number, or why nothing can be done with it.
func (c *Conn) there(stream int) (*stream, error) {
	if c.dead {
		return nil, api.ErrGone
	}
	s := c.find(stream)
	if s == nil {
		return nil, api.ErrStream
	}
	return s, nil
}

// sender is the stream of that number, if the own side may send there.
func (c *Conn) sender(number int) (*stream, error) {
	s, err := c.there(number)
	if err == nil && s.own != open {
		return nil, api.ErrStream
	}
	return s, err
}
