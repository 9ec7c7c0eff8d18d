package conn_test

import (
	"bytes"
	"fmt"
	"reflect"
	"slices"
	"strings"
	"testing"

	"parley/api"
	"parley/conn"
	"parley/frame"
	"parley/hpack"
)

// Lists, as texts.
const (
	get = ":method=GET :scheme=http :path=/"
	ok  = ":status=200"
)

// list is the headers of a text: name=value, one behind the other; with a ! ahead one is Never.
func list(text string) []api.Header {
	var l []api.Header
	for _, s := range strings.Fields(text) {
		rest, never := strings.CutPrefix(s, "!")
		name, value, _ := strings.Cut(rest, "=")
		l = append(l, api.Header{Name: name, Value: value, Never: never})
	}
	return l
}

// text is what list reads; long values are told by how many bytes they have.
func text(l []api.Header) string {
	var out []string
	for _, h := range l {
		s := h.Name + "="
		if h.Never {
			s = "!" + s
		}
		if len(h.Value) > 40 {
			s += fmt.Sprint("*", len(h.Value))
		} else {
			s += h.Value
		}
		out = append(out, s)
	}
	return strings.Join(out, " ")
}

// plain is bytes as a text: of many only their number.
func plain(b []byte) string {
	if len(b) > 40 {
		return fmt.Sprint("*", len(b))
	}
	return fmt.Sprintf("%q", b)
}

func ending(end bool) string {
	if end {
		return " end"
	}
	return ""
}

// told is an event as a text, and the event with nothing but what its kind tells.
func told(e conn.Event) (string, conn.Event) {
	only := conn.Event{Kind: e.Kind, Stream: e.Stream}
	switch e.Kind {
	case conn.Heads:
		only.List, only.End = e.List, e.End
		return fmt.Sprintf("Heads %d (%s)%s", e.Stream, text(e.List), ending(e.End)), only
	case conn.Data:
		only.Bytes, only.End = e.Bytes, e.End
		return fmt.Sprintf("Data %d %s%s", e.Stream, plain(e.Bytes), ending(e.End)), only
	case conn.Trailers:
		only.List = e.List
		return fmt.Sprintf("Trailers %d (%s)", e.Stream, text(e.List)), only
	case conn.Reset:
		only.Code = e.Code
		return fmt.Sprintf("Reset %d %d", e.Stream, e.Code), only
	case conn.Pong:
		return "Pong " + plain(e.Bytes), conn.Event{Kind: e.Kind, Bytes: e.Bytes}
	case conn.Gone:
		return fmt.Sprintf("Gone %d %d", e.Last, e.Code), conn.Event{Kind: e.Kind, Last: e.Last, Code: e.Code}
	case conn.Ready:
		return "Ready", conn.Event{Kind: e.Kind}
	case conn.Fail:
		return fmt.Sprintf("Fail %d", e.Code), conn.Event{Kind: e.Kind, Code: e.Code}
	}
	return fmt.Sprint("no kind ", e.Kind), conn.Event{}
}

// sameEvent takes nil and the empty list for the same.
func sameEvent(a, b conn.Event) bool {
	same := slices.Equal(a.List, b.List) && bytes.Equal(a.Bytes, b.Bytes)
	a.List, a.Bytes, b.List, b.Bytes = nil, nil, nil, nil
	return same && reflect.DeepEqual(a, b)
}

// events is what was told, as a text.
func events(t *testing.T, l []conn.Event) string {
	t.Helper()
	var out []string
	for _, e := range l {
		s, only := told(e)
		if !sameEvent(e, only) {
			t.Errorf("an event tells more than its kind does: %+v", e)
		}
		out = append(out, s)
	}
	return strings.Join(out, "; ")
}

// reader reads what an end puts out.
type reader struct {
	decoder *hpack.Decoder
	begun   bool
}

// read is frames as a text; a header list is told as one frame, whatever its pieces.
func (r *reader) read(t *testing.T, b []byte) string {
	t.Helper()
	if !r.begun {
		b = bytes.TrimPrefix(b, frame.Preface())
	}
	r.begun = true
	var out []string
	var whole frame.Info // the list that isn't whole
	size := 0
	for _, f := range frame.Frames(b, api.MaxFrame) {
		size += 9 + len(f.Payload)
		i, err := frame.Open(f)
		if err != nil {
			t.Fatal("no frame is put out", f, err)
		}
		if back, err := frame.Build(i); err != nil || back.Flags != f.Flags || i.Padded || i.Priority {
			t.Errorf("a frame has a flag too much: %+v", f)
		}
		if i.Type != api.FHeaders && i.Type != api.FContinue {
			if whole.Stream != 0 {
				t.Fatal("within a list stands", i)
			}
			out = append(out, said(i))
			continue
		}
		if (i.Type == api.FContinue) != (whole.Stream != 0) || i.Type == api.FContinue && i.Stream != whole.Stream {
			t.Fatal("a piece of no list", i)
		}
		if i.Type == api.FHeaders {
			whole = i
		} else {
			whole.Data = append(whole.Data, i.Data...)
		}
		if !i.EndHeads {
			if len(i.Data) != api.MaxFrame {
				t.Error("a piece that is not the last one has", len(i.Data))
			}
			continue
		}
		l, err := r.decoder.Decode(whole.Data)
		if err != nil {
			t.Fatal("no block is put out", whole.Data, err)
		}
		out = append(out, fmt.Sprintf("HEADERS %d (%s)%s", whole.Stream, text(l), ending(whole.End)))
		whole = frame.Info{}
	}
	if size != len(b) || whole.Stream != 0 {
		t.Errorf("what is put out is cut: %d bytes of %d", size, len(b))
	}
	return strings.Join(out, "; ")
}

// said is a frame as a text.
func said(i frame.Info) string {
	switch i.Type {
	case api.FData:
		return fmt.Sprintf("DATA %d %s%s", i.Stream, plain(i.Data), ending(i.End))
	case api.FReset:
		return fmt.Sprintf("RST %d %d", i.Stream, i.Code)
	case api.FSettings:
		s := "SETTINGS"
		if i.Ack {
			s += " ack"
		}
		for _, x := range i.Settings {
			s += fmt.Sprintf(" %d=%d", x.ID, x.Value)
		}
		return s
	case api.FPing:
		if i.Ack {
			return fmt.Sprintf("PING %q ack", i.Data)
		}
		return fmt.Sprintf("PING %q", i.Data)
	case api.FGoAway:
		if len(i.Data) > 0 {
			return fmt.Sprintf("GOAWAY %d %d with %q", i.Last, i.Code, i.Data)
		}
		return fmt.Sprintf("GOAWAY %d %d", i.Last, i.Code)
	case api.FWindow:
		return fmt.Sprintf("WINDOW %d %d", i.Stream, i.Inc)
	}
	return fmt.Sprintf("frame %+v", i)
}

// end is an end of a connection, and what the other side needs to speak with it.
type end struct {
	*testing.T
	*conn.Conn
	side    int
	piece   int            // bytes of each Feed at most
	encoder *hpack.Encoder // of the lists that it is fed
	reader  reader
}

func newEnd(t *testing.T, side int, c conn.Config) *end {
	t.Helper()
	e := &end{T: t, side: side, piece: 1 << 20}
	var err error
	if e.Conn, err = conn.New(side, c); err != nil {
		t.Fatal("New", side, c, err)
	}
	e.encoder, _ = hpack.NewEncoder(api.MaxTable)
	e.reader.decoder, _ = hpack.NewDecoder(api.MaxTable)
	return e
}

// each runs a script with an end whose first SETTINGS were put out; P8.10: again and again, whose bytes come in other pieces each time.
func each(t *testing.T, side int, c conn.Config, script func(e *end)) {
	t.Helper()
	for _, piece := range []int{1 << 20, 1, 7, 10} {
		t.Run(fmt.Sprintf("side %d by %d", side, piece), func(t *testing.T) {
			e := newEnd(t, side, c)
			e.piece = piece
			e.reader.read(t, e.Output())
			script(e)
		})
	}
}

// greeted is each, with an end that has read the other side's first bytes.
func greeted(t *testing.T, side int, c conn.Config, script func(e *end)) {
	t.Helper()
	each(t, side, c, func(e *end) {
		e.greet()
		script(e)
	})
}

func (e *end) greet(l ...int) {
	e.Helper()
	if e.side == api.Server {
		e.bytes("", frame.Preface())
	}
	e.feed("Ready", settings(l...))
	e.puts("SETTINGS ack")
}

// bytes feeds b, piece by piece, and holds the end to what it tells.
func (e *end) bytes(want string, b []byte) {
	e.Helper()
	var l []conn.Event
	for len(b) > 0 {
		n := min(e.piece, len(b))
		l = append(l, e.Feed(b[:n])...)
		b = b[n:]
	}
	if s := events(e.T, l); s != want {
		e.Fatalf("it tells %s; want %s", s, want)
	}
}

// feed is bytes of frames.
func (e *end) feed(want string, l ...frame.Info) {
	e.Helper()
	e.bytes(want, fed(l...))
}

// puts holds the end to what it puts out.
func (e *end) puts(want string) {
	e.Helper()
	if s := e.reader.read(e.T, e.Output()); s != want {
		e.Fatalf("it puts out %s; want %s", s, want)
	}
	if b := e.Output(); len(b) != 0 {
		e.Fatal("it puts out something again", b)
	}
}

// is holds what a call answered to an error, or to none.
func (e *end) is(got, want error) {
	e.Helper()
	if got != want {
		e.Fatalf("it answers %v; want %v", got, want)
	}
}

// open opens a stream, whose number must be that.
func (e *end) open(number int, l string, end bool) {
	e.Helper()
	if n, err := e.Open(list(l), end); n != number || err != nil {
		e.Fatalf("Open answers %d, %v; want %d", n, err, number)
	}
}

// unopened holds Open to an error, with no number beside it.
func (e *end) unopened(l string, want error) {
	e.Helper()
	if n, err := e.Open(list(l), false); n != 0 || err != want {
		e.Fatalf("Open answers %d, %v; want %v", n, err, want)
	}
}

// there holds the end to the streams that are there.
func (e *end) there(want ...int) {
	e.Helper()
	if l := e.Streams(); !slices.Equal(l, want) {
		e.Fatalf("there are %v; want %v", l, want)
	}
}

// heads is HEADERS with a list, as an encoder that the end follows writes it.
func (e *end) heads(stream int, l string, end bool) frame.Info {
	return block(stream, end, e.encoder.Encode(list(l))...)
}

// fed is frames as bytes.
func fed(l ...frame.Info) []byte {
	var b []byte
	for _, i := range l {
		f, err := frame.Build(i)
		if err != nil {
			panic(fmt.Sprint("no frame ", i))
		}
		one, _ := frame.Put(nil, f)
		b = append(b, one...)
	}
	return b
}

// raw is the bytes of a frame, whether it may be so or not.
func raw(kind, flags, stream int, payload ...byte) []byte {
	b, err := frame.Put(nil, api.Frame{Type: kind, Flags: flags, Stream: stream, Payload: payload})
	if err != nil {
		panic(err)
	}
	return b
}

// block is HEADERS with a block of bytes.
func block(stream int, end bool, b ...byte) frame.Info {
	return frame.Info{Type: api.FHeaders, Stream: stream, End: end, EndHeads: true, Data: b}
}

// cut is HEADERS with a block that goes on behind it.
func cut(stream int, end bool, b ...byte) frame.Info {
	return frame.Info{Type: api.FHeaders, Stream: stream, End: end, Data: b}
}

func more(stream int, whole bool, b ...byte) frame.Info {
	return frame.Info{Type: api.FContinue, Stream: stream, EndHeads: whole, Data: b}
}

// settings is SETTINGS of pairs of an ID and a value.
func settings(l ...int) frame.Info {
	i := frame.Info{Type: api.FSettings}
	for ; len(l) > 0; l = l[2:] {
		i.Settings = append(i.Settings, api.Setting{ID: l[0], Value: l[1]})
	}
	return i
}

func settingsAck() frame.Info { return frame.Info{Type: api.FSettings, Ack: true} }

func data(stream int, s string, end bool) frame.Info {
	return frame.Info{Stream: stream, Data: []byte(s), End: end}
}

// padded counts len(s) and pad and one more.
func padded(stream int, s string, pad int, end bool) frame.Info {
	return frame.Info{Stream: stream, Data: []byte(s), End: end, Padded: true, Pad: pad}
}

func rst(stream, code int) frame.Info {
	return frame.Info{Type: api.FReset, Stream: stream, Code: code}
}

func window(stream, inc int) frame.Info {
	return frame.Info{Type: api.FWindow, Stream: stream, Inc: inc}
}

func goAway(last, code int) frame.Info {
	return frame.Info{Type: api.FGoAway, Last: last, Code: code, Data: []byte("debug")}
}

func ping(s string) frame.Info { return frame.Info{Type: api.FPing, Data: []byte(s)} }

func pingAck(s string) frame.Info {
	return frame.Info{Type: api.FPing, Ack: true, Data: []byte(s)}
}

// run is n bytes as a text.
func run(n int) string { return strings.Repeat("0123456789", n/10+1)[:n] }

// wide is a configuration that lets all come.
var wide = conn.Config{Window: 65535, Streams: 100}
