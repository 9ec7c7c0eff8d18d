package conn

import (
	"parley/api"
	"parley/frame"
	"parley/head"
)

// leastFinal is the least status of an answer; those below it only tell that one will come.
const leastFinal = 200

// pieces is a header list that isn't whole: the frames that came of it, without what is around their pieces.
type pieces struct {
	stream int // 0: there is none
	end    bool
	block  []byte
}

func (c *Conn) heads(i frame.Info) {
	if c.side == api.Client {
		c.mustBeKnown(i.Stream)
	} else if i.Stream%2 == 0 {
		giveUp(fault{code: api.CProtocol})
	}
	c.pieces = pieces{stream: i.Stream, end: i.End}
	c.piece(i)
}

func (c *Conn) piece(i frame.Info) {
	if len(c.pieces.block)+len(i.Data) > api.MaxList {
		giveUp(fault{code: api.CCalm})
	}
	c.pieces.block = append(c.pieces.block, i.Data...)
	if i.EndHeads {
		whole := c.pieces
		c.pieces = pieces{}
		c.list(whole)
	}
}

// list is told each header list when all of it is there. It is decoded whatever becomes of it, as the decoder must keep up with the other side.
func (c *Conn) list(p pieces) {
	l, err := c.decoder.Decode(p.block)
	if err != nil {
		giveUp(fault{code: api.CCompression})
	}
	s := c.find(p.stream)
	switch {
	case p.stream > c.greatest: // at a server: a client is never told a list of an idle stream
		c.opened(p.stream, l, p.end)
	case s == nil:
	case s.other == ended:
		giveUp(fault{code: api.CClosed, stream: s.number})
	case s.other == fresh:
		c.answered(s, l, p.end)
	default:
		c.trailed(s, l, p.end)
	}
}

// opened: the client opens a stream.
func (c *Conn) opened(stream int, l []api.Header, end bool) {
	c.greatest = stream
	_, err := head.Open(l)
	switch {
	case c.bye || len(c.streams) >= c.config.Streams:
		c.put(frame.Info{Type: api.FReset, Stream: stream, Code: api.CRefused})
	case err != nil:
		c.put(frame.Info{Type: api.FReset, Stream: stream, Code: api.CProtocol})
	default:
		c.begins(c.enter(stream, fresh, open), l, end)
	}
}

// answered: the server answers.
func (c *Conn) answered(s *stream, l []api.Header, end bool) {
	r, err := head.OpenAnswer(l)
	if err != nil || r.Status < leastFinal && end {
		giveUp(fault{code: api.CProtocol, stream: s.number})
	}
	if r.Status >= leastFinal {
		c.begins(s, l, end)
	}
}

// begins: l is the first list of the other side.
func (c *Conn) begins(s *stream, l []api.Header, end bool) {
	c.tell(Event{Kind: Heads, Stream: s.number, List: l, End: end})
	s.other = open
	if end {
		c.endOther(s)
	}
}

// trailed: the other side ends by trailers.
func (c *Conn) trailed(s *stream, l []api.Header, end bool) {
	if !end || head.Trailers(l) != nil {
		giveUp(fault{code: api.CProtocol, stream: s.number})
	}
	c.tell(Event{Kind: Trailers, Stream: s.number, List: l})
	c.endOther(s)
}
