package conn

import (
	"slices"

	"parley/api"
	"parley/flow"
	"parley/frame"
)

// Output is what was put out and not answered yet, and behind it what the windows let go of what waits.
func (c *Conn) Output() []byte {
	for busy := slices.Clone(c.streams); len(busy) > 0; {
		busy = c.round(busy)
	}
	out := c.output
	c.output = nil
	return out
}

// round puts out a frame of each stream that has one, and answers these: no window gets larger here, so that one that has none will have none.
func (c *Conn) round(l []*stream) []*stream {
	var busy []*stream
	for _, s := range l {
		if c.sends(s) {
			busy = append(busy, s)
		}
	}
	return busy
}

// sends puts out the next frame of what waits, or the last one behind it, and tells whether there was one.
func (c *Conn) sends(s *stream) bool {
	switch {
	case len(s.waits) > 0:
		return c.sendsBytes(s)
	case s.own == asked:
		c.putData(s, nil)
	case s.own == trailing:
		c.putList(s, s.trailers, true)
	default:
		return false
	}
	return true
}

// sendsBytes puts out as many of the bytes that wait as one frame has and both windows let go, if any.
func (c *Conn) sendsBytes(s *stream) bool {
	both := flow.Both(c.out, s.out)
	n := both.Room(min(len(s.waits), api.MaxFrame))
	if n == 0 {
		return false
	}
	both.Take(n)
	b := s.waits[:n]
	s.waits = s.waits[n:]
	if len(s.waits) == 0 {
		s.waits = nil // or else it would keep the memory of all that waited
	}
	c.putData(s, b)
	return true
}

// putData puts out b, and ends the own side with it, if it is asked to end and nothing stands behind.
func (c *Conn) putData(s *stream, b []byte) {
	end := s.own == asked && len(s.waits) == 0
	c.put(frame.Info{Type: api.FData, Stream: s.number, Data: b, End: end})
	if end {
		c.endOwn(s)
	}
}

// putList puts out l in as many frames as it takes, and ends the own side with it, if end says so.
func (c *Conn) putList(s *stream, l []api.Header, end bool) {
	block := c.encoder.Encode(l)
	i := frame.Info{Type: api.FHeaders, Stream: s.number, End: end}
	for len(block) > api.MaxFrame {
		i.Data, block = block[:api.MaxFrame], block[api.MaxFrame:]
		c.put(i)
		i = frame.Info{Type: api.FContinue, Stream: s.number}
	}
	i.Data, i.EndHeads = block, true
	c.put(i)
	if end {
		c.endOwn(s)
	}
}

// putGoAway tells the other side up to which of its streams something was done; a server opens none.
func (c *Conn) putGoAway(code int) {
	i := frame.Info{Type: api.FGoAway, Code: code}
	if c.side == api.Server {
		i.Last = c.greatest
	}
	c.put(i)
}

// giveBack gives the connection's window n bytes.
func (c *Conn) giveBack(n int) {
	c.give(0, c.in, n)
}

// give gives n bytes to w, the window of that stream, or of the connection, if it is 0.
func (c *Conn) give(stream int, w *flow.Window, n int) {
	if n == 0 {
		return
	}
	// It has no error: no more is given than was taken.
	w.Give(n)
	c.put(frame.Info{Type: api.FWindow, Stream: stream, Inc: n})
}

// put lays a frame behind those that wait.
func (c *Conn) put(i frame.Info) {
	// Neither has an error: an end says nothing that a frame can't say.
	f, _ := frame.Build(i)
	b, _ := frame.Put(nil, f)
	// By append, as Put behind c.output would copy all of it for each frame.
	c.output = append(c.output, b...)
}
