package conn_test

import (
	"bytes"
	"math"
	"testing"

	"parley/api"
	"parley/conn"
	"parley/frame"
)

// TestNew: P8.2, what each side puts out first, at the edges of its numbers.
func TestNew(t *testing.T) {
	for _, window := range []int{0, 1, 255, 65535, 65536, api.MaxWindow} {
		w := []byte{0, 4, byte(window >> 24), byte(window >> 16), byte(window >> 8), byte(window)}
		head, behind := []byte{0, 0, 18, 4, 0, 0, 0, 0, 0}, []byte{0, 6, 0, 0, 64, 0}
		for _, streams := range []int{0, 1, 99, api.MaxConfig} {
			c := conn.Config{Window: window, Streams: streams}
			client := bytes.Join([][]byte{frame.Preface(), head, {0, 2, 0, 0, 0, 0}, w, behind}, nil)
			server := bytes.Join([][]byte{head, {0, 3, 0, 0, 0, byte(streams)}, w, behind}, nil)
			for side, want := range map[int][]byte{api.Client: client, api.Server: server} {
				e := newEnd(t, side, c)
				if b := e.Output(); !bytes.Equal(b, want) {
					t.Errorf("side %d of %v puts out %v; want %v", side, c, b, want)
				}
				e.puts("")
				e.there()
				if code, dead := e.Dead(); code != 0 || dead || e.Waiting(1) != 0 || e.Held(1) != 0 {
					t.Error("an end that is new is dead, or has bytes")
				}
			}
		}
	}
}

// TestNewErrors: P8.2, and P0.3: no end beside an error.
func TestNewErrors(t *testing.T) {
	for _, x := range []struct {
		side, window, streams int
		want                  error
	}{
		{0, 0, 0, api.ErrRole}, {3, 0, 0, api.ErrRole}, {-1, 0, 0, api.ErrRole}, {math.MinInt, 0, 0, api.ErrRole}, {math.MaxInt, 0, 0, api.ErrRole},
		{0, -1, -1, api.ErrRole}, {3, api.MaxWindow + 1, 101, api.ErrRole},
		{1, -1, 0, api.ErrNumber}, {2, -1, 0, api.ErrNumber}, {1, api.MaxWindow + 1, 0, api.ErrNumber}, {2, api.MaxWindow + 1, 0, api.ErrNumber},
		{1, 0, -1, api.ErrNumber}, {2, 0, -1, api.ErrNumber}, {1, 0, 101, api.ErrNumber}, {2, 0, 101, api.ErrNumber},
		{2, math.MinInt, 0, api.ErrNumber}, {2, math.MaxInt, 0, api.ErrNumber}, {2, 0, math.MinInt, api.ErrNumber}, {2, 0, math.MaxInt, api.ErrNumber},
		{2, 1 << 32, 0, api.ErrNumber}, {2, 0, 1 << 32, api.ErrNumber},
	} {
		if c, err := conn.New(x.side, conn.Config{Window: x.window, Streams: x.streams}); c != nil || err != x.want {
			t.Errorf("New(%d, %d, %d) = %v, %v; want %v", x.side, x.window, x.streams, c, err, x.want)
		}
	}
}

// TestPreface: P8.1, a server's first bytes; the fault comes with the first byte that is another one, not ahead of it.
func TestPreface(t *testing.T) {
	preface := frame.Preface()
	for at := range preface {
		for _, wrong := range []byte{0, preface[at] ^ 32, preface[at] + 1, 'A'} {
			if wrong == preface[at] {
				continue
			}
			each(t, api.Server, wide, func(e *end) {
				e.bytes("", preface[:at])
				e.puts("")
				e.bytes("Fail 1", []byte{wrong})
				e.puts("GOAWAY 0 1")
			})
			e := newEnd(t, api.Server, wide)
			e.bytes("Fail 1", append(bytes.Clone(preface[:at]), wrong))
		}
	}
	each(t, api.Server, wide, func(e *end) {
		e.bytes("", preface)
		e.feed("Ready", settings())
		e.puts("SETTINGS ack")
	})
	each(t, api.Server, wide, func(e *end) {
		e.bytes("Fail 1", fed(settings()))
	})
	each(t, api.Client, wide, func(e *end) { // which is sent none
		e.bytes("Fail 6", preface)
	})
}

// TestFirstFrame: P8.1, the first frame must be SETTINGS without Ack, ahead of all that it says.
func TestFirstFrame(t *testing.T) {
	for _, side := range []int{api.Client, api.Server} {
		first := func(want string, b []byte) {
			t.Helper()
			each(t, side, wide, func(e *end) {
				if side == api.Server {
					e.bytes("", frame.Preface())
				}
				e.bytes(want, b)
			})
		}
		for kind := range 256 {
			if kind != api.FSettings {
				first("Fail 1", raw(kind, 0, 0))
				first("Fail 1", raw(kind, 1, 1, 1, 2, 3))
			}
		}
		first("Fail 1", fed(settingsAck()))
		first("Fail 1", raw(api.FSettings, 255, 0, 1))
		first("Fail 1", fed(ping("12345678")))
		first("Ready", fed(settings()))
		first("Ready", raw(api.FSettings, 254, 0, 0, 9, 0, 0, 0, 0))
		first("Fail 6", raw(api.FSettings, 0, 0, 0))
		first("Fail 1", raw(api.FSettings, 0, 1))
		first("Ready; Pong \"12345678\"", fed(settings(), pingAck("12345678")))
		first("Fail 6", []byte{0, 64, 1, 9, 0, 0, 0, 0, 0})
	}
}

// TestFrameSize: P8.1, the fault comes with the ninth byte, ahead of all others.
func TestFrameSize(t *testing.T) {
	greeted(t, api.Server, wide, func(e *end) {
		e.feed("Heads 1 ("+get+")", e.heads(1, get, false))
		e.feed(`Data 1 *16384`, data(1, run(api.MaxFrame), false))
		e.bytes("", raw(77, 0, 0, make([]byte, api.MaxFrame)...))
		e.bytes("", []byte{0, 64, 1, 0, 0, 0, 0, 0})
		e.puts("")
		e.bytes("Fail 6", []byte{1})
		e.puts("GOAWAY 1 6")
	})
	for _, head := range [][]byte{{0, 64, 1, 0, 0, 0, 0, 0, 0}, {255, 255, 255, 200, 0, 0, 0, 0, 9}, {1, 0, 0, 6, 0, 0, 0, 0, 0}} {
		greeted(t, api.Server, wide, func(e *end) {
			e.feed("", cut(1, false))
			e.bytes("Fail 6", head)
			e.puts("GOAWAY 0 6")
		})
	}
}

// TestPieces: P8.1, P8.10: a frame is read as soon as its last byte comes, and not ahead of it.
func TestPieces(t *testing.T) {
	for _, side := range []int{api.Client, api.Server} {
		e := newEnd(t, side, wide)
		e.reader.read(t, e.Output())
		e.greet()
		for n := range 3 {
			b := fed(ping("12345678"))
			for at := range b[:len(b)-1] {
				e.bytes("", b[at:at+1])
				e.bytes("", nil)
				e.puts("")
			}
			e.bytes("", b[len(b)-1:])
			e.puts(`PING "12345678" ack`)
			e.bytes("", append(bytes.Repeat(b, 2), b[:n]...))
			e.puts(`PING "12345678" ack; PING "12345678" ack`)
			e.bytes("", b[n:])
			e.puts(`PING "12345678" ack`)
		}
		if l := e.Feed(bytes.Repeat(fed(pingAck("12345678")), 5000)); len(l) != 5000 { // as many at once as there are
			t.Error("of 5000 are told", len(l))
		}
	}
}
