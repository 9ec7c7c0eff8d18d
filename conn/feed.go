package conn

import (
	"bytes"
	"errors"

	"parley/api"
	"parley/frame"
)

// Feed tells what can be read with b behind all that was fed.
func (c *Conn) Feed(b []byte) []Event {
	if c.dead {
		return nil
	}
	c.unread = append(c.unread, b...)
	all := len(c.unread)
	for c.reads() {
	}
	if len(c.unread) < all {
		// In memory of its own: the rest of a frame must not hold all that was read ahead of it.
		c.unread = bytes.Clone(c.unread)
	}
	told := c.told
	c.told = nil
	return told
}

// fault is what the reading of a frame is given up with, by a panic.
type fault struct {
	code   int
	stream int // whose fault it is; 0: the connection's
	back   int // bytes that the connection is given back, if the stream is there
}

func giveUp(f fault) {
	panic(f)
}

// reads reads what comes next, if it is all there, and tells whether it was.
func (c *Conn) reads() (read bool) {
	defer func() {
		switch x := recover().(type) {
		case nil:
		case fault:
			c.answerFault(x)
			read = !c.dead
		default:
			panic(x)
		}
	}()
	if len(c.preface) > 0 {
		return c.readPreface()
	}
	return c.readFrame()
}

// readPreface takes each byte as it comes, so that the first wrong one is seen at once.
func (c *Conn) readPreface() bool {
	n := min(len(c.preface), len(c.unread))
	if !bytes.Equal(c.preface[:n], c.unread[:n]) {
		giveUp(fault{code: api.CProtocol})
	}
	c.preface, c.unread = c.preface[n:], c.unread[n:]
	return len(c.preface) == 0
}

func (c *Conn) readFrame() bool {
	f, n, err := frame.Get(c.unread, api.MaxFrame)
	switch err {
	case nil:
	case api.ErrLong:
		giveUp(fault{code: api.CSize})
	default:
		return false
	}
	c.unread = c.unread[n:]
	c.checkTurn(f)
	i, err := frame.Open(f)
	var h *api.H2
	if errors.As(err, &h) {
		giveUp(fault{code: h.Code, stream: h.Stream})
	}
	if do, ok := deeds()[i.Type]; ok {
		do(c, i)
	}
	return true
}

// checkTurn gives up where f may not come now.
func (c *Conn) checkTurn(f api.Frame) {
	settings := f.Type == api.FSettings && f.Flags&api.FlagAck == 0
	continues := f.Type == api.FContinue
	late := c.pieces.stream != 0 && !(continues && f.Stream == c.pieces.stream)
	if !c.begun && !settings || late || c.pieces.stream == 0 && continues {
		giveUp(fault{code: api.CProtocol})
	}
	c.begun = true
}

// answerFault does what a fault asks for: of a stream that is there, of one that isn't opened, of the connection.
func (c *Conn) answerFault(f fault) {
	if s := c.find(f.stream); s != nil {
		c.put(frame.Info{Type: api.FReset, Stream: f.stream, Code: f.code})
		c.tell(Event{Kind: Reset, Stream: f.stream, Code: f.code})
		c.leave(s)
		c.giveBack(f.back)
		return
	}
	if c.idle(f.stream) {
		c.fail(f.code)
	}
}

// fail is a fault of the connection; nothing of it is needed any more but its code and its output.
func (c *Conn) fail(code int) {
	c.putGoAway(code)
	c.tell(Event{Kind: Fail, Code: code})
	c.dead, c.code = true, code
	c.streams, c.unread, c.pieces = nil, nil, pieces{}
}

func (c *Conn) tell(e Event) {
	c.told = append(c.told, e)
}
