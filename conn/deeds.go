package conn

import (
	"slices"

	"parley/api"
	"parley/frame"
)

// deeds is what a frame of each type does; PRIORITY and other types do nothing.
func deeds() map[int]func(c *Conn, i frame.Info) {
	return map[int]func(c *Conn, i frame.Info){
		api.FData:     (*Conn).data,
		api.FHeaders:  (*Conn).heads,
		api.FReset:    (*Conn).reset,
		api.FSettings: (*Conn).settings,
		api.FPush:     (*Conn).push,
		api.FPing:     (*Conn).ping,
		api.FGoAway:   (*Conn).goAway,
		api.FWindow:   (*Conn).window,
		api.FContinue: (*Conn).piece,
	}
}

func (c *Conn) data(i frame.Info) {
	padding := 0
	if i.Padded {
		padding = 1 + i.Pad // the byte that tells Pad counts, too
	}
	n := len(i.Data) + padding
	c.mustBeKnown(i.Stream)
	if c.in.Take(n) != nil {
		giveUp(fault{code: api.CFlow})
	}
	s := c.find(i.Stream)
	if s == nil {
		c.giveBack(n)
		return
	}
	s.mustTake(n)
	c.giveBack(padding)
	if !i.End {
		c.give(s.number, s.in, padding)
	}
	if len(i.Data) > 0 || i.End {
		s.held += len(i.Data)
		c.tell(Event{Kind: Data, Stream: s.number, Bytes: i.Data, End: i.End})
	}
	if i.End {
		c.endOther(s)
	}
}

// mustTake takes the n bytes of a frame of data, or gives up.
func (s *stream) mustTake(n int) {
	code := api.CNone
	switch {
	case s.other == fresh:
		code = api.CProtocol
	case s.other == ended:
		code = api.CClosed
	case s.in.Take(n) != nil:
		code = api.CFlow
	}
	if code != api.CNone {
		giveUp(fault{code: code, stream: s.number, back: n})
	}
}

func (c *Conn) mustBeKnown(stream int) {
	if c.idle(stream) {
		giveUp(fault{code: api.CProtocol})
	}
}

func (c *Conn) reset(i frame.Info) {
	c.mustBeKnown(i.Stream)
	if s := c.find(i.Stream); s != nil {
		c.tell(Event{Kind: Reset, Stream: i.Stream, Code: i.Code})
		c.leave(s)
	}
}

func (c *Conn) settings(i frame.Info) {
	if i.Ack {
		c.acknowledged()
		return
	}
	for _, x := range i.Settings {
		c.set(x)
	}
	c.put(frame.Info{Type: api.FSettings, Ack: true})
	c.tell(Event{Kind: Ready})
}

// acknowledged: from now on the other side keeps to the own SETTINGS.
func (c *Conn) acknowledged() {
	if c.acked {
		giveUp(fault{code: api.CProtocol})
	}
	c.acked = true
	by := c.config.Window - c.firstIn
	c.firstIn = c.config.Window
	for _, s := range c.streams {
		// It has no error: no more is left than the window began with, and no less than 0.
		s.in.Shift(by)
	}
}

// set does what a setting of the other side asks for.
func (c *Conn) set(x api.Setting) {
	switch x.ID {
	case api.STable:
		// It has no error: what the encoder may have at most bounds it.
		c.encoder.Resize(min(x.Value, api.MaxTable))
	case api.SStreams:
		c.most = x.Value
	case api.SWindow:
		by := x.Value - c.firstOut
		c.firstOut = x.Value
		for _, s := range c.streams {
			if s.out.Shift(by) != nil {
				giveUp(fault{code: api.CFlow})
			}
		}
	}
}

// push: no end lets the other one promise anything.
func (c *Conn) push(frame.Info) {
	giveUp(fault{code: api.CProtocol})
}

func (c *Conn) ping(i frame.Info) {
	if i.Ack {
		c.tell(Event{Kind: Pong, Bytes: i.Data})
		return
	}
	c.put(frame.Info{Type: api.FPing, Ack: true, Data: i.Data})
}

func (c *Conn) goAway(i frame.Info) {
	c.tell(Event{Kind: Gone, Last: i.Last, Code: i.Code})
	c.away = true
	if c.side != api.Client {
		return
	}
	at, _ := c.place(i.Last + 1)
	for _, s := range slices.Clone(c.streams[at:]) {
		c.tell(Event{Kind: Reset, Stream: s.number, Code: api.CRefused})
		c.leave(s)
	}
}

func (c *Conn) window(i frame.Info) {
	if i.Stream == 0 {
		if c.out.Give(i.Inc) != nil {
			giveUp(fault{code: api.CFlow})
		}
		return
	}
	c.mustBeKnown(i.Stream)
	if s := c.find(i.Stream); s != nil && s.out.Give(i.Inc) != nil {
		giveUp(fault{code: api.CFlow, stream: i.Stream})
	}
}
