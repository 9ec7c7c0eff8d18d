package conn_test

import (
	"math"
	"testing"

	"parley/api"
	"parley/frame"
)

// TestListNotWhole: P8.1, nothing but the CONTINUATION of that stream may come within a list, whatever it says; none may come without.
func TestListNotWhole(t *testing.T) {
	for _, b := range [][]byte{
		fed(data(1, "a", false)), fed(block(1, true)), fed(cut(3, true)), raw(api.FPriority, 0, 1, 0), fed(rst(1, 0)), fed(settings()), fed(settingsAck()),
		raw(api.FPush, 0, 1), raw(api.FPing, 0, 0, 1), raw(api.FPriority, 0, 1), fed(goAway(0, 0)), fed(window(0, 1)), fed(more(3, true)), fed(more(3, false)),
		raw(api.FContinue, 4, 0), raw(77, 0, 0), raw(77, 0, 1),
	} {
		greeted(t, api.Server, wide, func(e *end) {
			e.feed("", cut(1, true, 131))
			e.bytes("Fail 1", b)
			e.puts("GOAWAY 0 1")
		})
	}
	for _, b := range [][]byte{fed(more(1, true)), fed(more(3, false)), raw(api.FContinue, 0, 0), raw(api.FContinue, 0, 2)} {
		for _, side := range []int{api.Client, api.Server} {
			greeted(t, side, wide, func(e *end) { e.bytes("Fail 1", b) })
		}
		greeted(t, api.Server, wide, func(e *end) {
			e.feed("Heads 1 ("+get+")", cut(1, false, 130), more(1, false, 134), more(1, true, 132))
			e.bytes("Fail 1", b)
			e.puts("GOAWAY 1 1")
		})
	}
}

// TestFramesThatMayNotBe: P8.1, frame.Open's faults of the connection.
func TestFramesThatMayNotBe(t *testing.T) {
	for _, x := range []struct {
		want string
		b    []byte
	}{
		{"Fail 1", raw(api.FData, 0, 0)}, {"Fail 1", raw(api.FHeaders, 4, 0, 130, 134, 132)}, {"Fail 1", raw(api.FPriority, 0, 0, 0, 0, 0, 1, 1)},
		{"Fail 1", raw(api.FReset, 0, 0, 0, 0, 0, 0)}, {"Fail 6", raw(api.FReset, 0, 1, 0, 0, 0)}, {"Fail 6", raw(api.FReset, 0, 9, 0, 0, 0, 0, 0)},
		{"Fail 1", raw(api.FSettings, 0, 1)}, {"Fail 6", raw(api.FSettings, 0, 0, 0, 1, 0, 0, 0)}, {"Fail 6", raw(api.FSettings, 1, 0, 0, 1, 0, 0, 0, 0)},
		{"Fail 1", raw(api.FSettings, 0, 0, 0, 2, 0, 0, 0, 2)}, {"Fail 3", raw(api.FSettings, 0, 0, 0, 4, 128, 0, 0, 0)}, {"Fail 1", raw(api.FSettings, 0, 0, 0, 5, 0, 0, 63, 255)},
		{"Fail 6", raw(api.FPing, 0, 0, 1, 2, 3, 4, 5, 6, 7)}, {"Fail 1", raw(api.FPing, 0, 1, 1, 2, 3, 4, 5, 6, 7, 8)}, {"Fail 6", raw(api.FGoAway, 0, 0, 1, 2, 3, 4, 5, 6, 7)},
		{"Fail 6", raw(api.FWindow, 0, 0, 1)}, {"Fail 6", raw(api.FWindow, 0, 1, 1)}, {"Fail 1", raw(api.FWindow, 0, 0, 0, 0, 0, 0)},
		{"Fail 6", raw(api.FData, 8, 1)}, {"Fail 1", raw(api.FData, 8, 1, 1)}, {"Fail 6", raw(api.FHeaders, 12, 1)}, {"Fail 1", raw(api.FHeaders, 12, 1, 4, 130, 134, 132)},
		{"Fail 6", raw(api.FHeaders, 36, 1, 0, 0, 0, 3)}, {"Fail 6", raw(api.FPush, 0, 1, 0)}, {"Fail 1", raw(api.FPush, 0, 1, 0, 0, 0, 0)},
	} {
		for _, side := range []int{api.Client, api.Server} {
			greeted(t, side, wide, func(e *end) { e.bytes(x.want, x.b) })
		}
		greeted(t, api.Server, wide, func(e *end) { // and a stream that is there is not told of
			e.feed("Heads 1 ("+get+"); Data 1 \"ab\"", e.heads(1, get, false), data(1, "ab", false))
			e.bytes(x.want, x.b)
			e.puts("GOAWAY 1 " + x.want[5:])
			e.there()
		})
	}
}

// TestStreamFaultsOfFrames: P8.1, frame.Open's faults of a stream that is there, of one that left, of one that is idle.
func TestStreamFaultsOfFrames(t *testing.T) {
	for _, x := range []struct {
		code string
		b    func(stream int) []byte
	}{
		{"6", func(stream int) []byte { return raw(api.FPriority, 0, stream, 0, 0, 0, 1) }},
		{"6", func(stream int) []byte { return raw(api.FPriority, 0, stream, 0, 0, 0, 1, 2, 3) }},
		{"1", func(stream int) []byte { return raw(api.FPriority, 0, stream, 0, 0, 0, byte(stream), 2) }},
		{"1", func(stream int) []byte { return raw(api.FWindow, 0, stream, 0, 0, 0, 0) }},
		{"1", func(stream int) []byte { return raw(api.FWindow, 0, stream, 128, 0, 0, 0) }},
		{"1", func(stream int) []byte { return raw(api.FHeaders, 37, stream, 0, 0, 0, byte(stream), 2, 128) }}, // whose block, a fault, is not looked at
		{"1", func(stream int) []byte { return raw(api.FHeaders, 32, stream, 128, 0, 0, byte(stream), 2, 130) }},
	} {
		greeted(t, api.Server, wide, func(e *end) {
			e.feed("Heads 1 ("+get+"); Data 1 \"ab\"", e.heads(1, get, false), data(1, "ab", false))
			e.feed("Heads 5 ("+get+")", e.heads(5, get, false))
			e.bytes("Reset 1 "+x.code, x.b(1))
			e.puts("RST 1 " + x.code + "; WINDOW 0 2")
			e.bytes("", x.b(1))
			e.bytes("", x.b(3))
			e.puts("")
			e.there(5)
			e.bytes("Reset 5 "+x.code, x.b(5))
			e.puts("RST 5 " + x.code)
			e.bytes("Fail "+x.code, x.b(7))
			e.puts("GOAWAY 5 " + x.code)
		})
		greeted(t, api.Server, wide, func(e *end) {
			e.bytes("Fail "+x.code, x.b(2))
			e.puts("GOAWAY 0 " + x.code)
		})
		greeted(t, api.Client, wide, func(e *end) {
			e.open(1, get, false)
			e.open(3, get, false)
			e.puts("HEADERS 1 (" + get + "); HEADERS 3 (" + get + ")")
			e.bytes("Reset 1 "+x.code, x.b(1))
			e.puts("RST 1 " + x.code)
			e.bytes("", x.b(1))
			e.there(3)
			e.bytes("Fail "+x.code, x.b(5))
			e.puts("GOAWAY 0 " + x.code)
		})
	}
	greeted(t, api.Server, wide, func(e *end) { // what goes on behind such HEADERS is the CONTINUATION of none
		e.feed("Heads 1 ("+get+")", e.heads(1, get, false))
		e.bytes("Reset 1 1", raw(api.FHeaders, 32, 1, 0, 0, 0, 1, 2))
		e.feed("Fail 1", more(1, true))
	})
}

// TestFrameFaultFirst: P8.1, frame.Open's fault goes ahead of what the frame's type asks for.
func TestFrameFaultFirst(t *testing.T) {
	greeted(t, api.Server, wide, func(e *end) { e.bytes("Fail 6", raw(api.FReset, 0, 2, 1)) })
	greeted(t, api.Server, wide, func(e *end) { e.bytes("Fail 6", raw(api.FWindow, 0, 2, 1)) })
	greeted(t, api.Server, wide, func(e *end) { e.bytes("Fail 6", raw(api.FPush, 0, 2, 1)) })
	greeted(t, api.Server, wide, func(e *end) { e.bytes("Fail 6", raw(api.FHeaders, 8, 2)) })
}

// TestNothingFrames: P8.1, PRIORITY and other types do nothing and open nothing; PUSH_PROMISE is a fault.
func TestNothingFrames(t *testing.T) {
	for _, side := range []int{api.Client, api.Server} {
		greeted(t, side, wide, func(e *end) {
			for stream := 1; stream < 12; stream++ {
				e.feed("", frame.Info{Type: api.FPriority, Stream: stream, Dep: 20, Weight: 9})
			}
			e.feed("", frame.Info{Type: api.FPriority, Stream: api.MaxStream, Alone: true, Weight: 256})
			for kind := api.FContinue + 1; kind < 256; kind++ {
				e.bytes("", raw(kind, kind, kind%5, 1, 2, 3))
			}
			e.puts("")
			e.there()
			e.feed("Fail 1", data(1, "", false)) // still idle
		})
		greeted(t, side, wide, func(e *end) {
			e.feed("Fail 1", frame.Info{Type: api.FPush, Stream: 1, Promise: 2, EndHeads: true, Data: []byte{130}})
			e.puts("GOAWAY 0 1")
		})
	}
	greeted(t, api.Client, wide, func(e *end) {
		e.open(1, get, true)
		e.feed("Fail 1", frame.Info{Type: api.FPush, Stream: 1, Promise: 2})
	})
}

// TestResets: P8.1, RST_STREAM of a stream that is there, of one that left, of one that is idle.
func TestResets(t *testing.T) {
	greeted(t, api.Server, wide, func(e *end) {
		e.feed("Heads 5 ("+get+"); Data 5 \"abc\"", e.heads(5, get, false), data(5, "abc", false))
		e.feed("Heads 7 ("+get+") end", e.heads(7, get, true))
		e.feed("Reset 5 8; Reset 7 4294967295", rst(5, 8), rst(7, math.MaxUint32))
		e.puts("WINDOW 0 3") // what was held, and no RST_STREAM
		e.there()
		e.feed("", rst(5, 8), rst(7, 8), rst(1, 8), rst(3, 0))
		e.puts("")
		e.feed("Fail 1", rst(9, 8))
		e.puts("GOAWAY 7 1")
	})
	greeted(t, api.Server, wide, func(e *end) { e.feed("Fail 1", rst(2, 0)) })
	greeted(t, api.Server, wide, func(e *end) {
		e.feed("Heads 3 ("+get+")", e.heads(3, get, false))
		e.feed("Fail 1", rst(2, 0)) // an even one is idle, though it is below
	})
	greeted(t, api.Client, wide, func(e *end) {
		e.open(1, get, false)
		e.is(e.Send(1, []byte("abc"), true), nil)
		e.feed("Reset 1 0", rst(1, 0))
		e.puts("HEADERS 1 (" + get + ")") // what waited is dropped
		e.feed("", rst(1, 0))
		e.feed("Fail 1", rst(3, 0))
		e.puts("GOAWAY 0 1")
	})
}

// TestPings: P8.1, P8.6.
func TestPings(t *testing.T) {
	for _, side := range []int{api.Client, api.Server} {
		greeted(t, side, wide, func(e *end) {
			e.feed(`Pong "87654321"`, ping("12345678"), pingAck("87654321"), ping("abcdefgh"))
			e.puts(`PING "12345678" ack; PING "abcdefgh" ack`)
			e.is(e.Ping([]byte("ABCDEFGH")), nil)
			e.is(e.Ping([]byte("ABCDEFG")), api.ErrNumber)
			e.is(e.Ping([]byte("ABCDEFGHI")), api.ErrNumber)
			e.is(e.Ping(nil), api.ErrNumber)
			e.puts(`PING "ABCDEFGH"`)
		})
	}
}

// TestGoAways: P8.1: what a client, what a server does at one.
func TestGoAways(t *testing.T) {
	greeted(t, api.Client, wide, func(e *end) {
		for n := 1; n < 10; n += 2 {
			e.open(n, get, false)
		}
		e.Output()
		e.feed("Heads 7 ("+ok+"); Data 7 \"ab\"", e.heads(7, ok, false), data(7, "ab", false))
		e.feed("Heads 9 ("+ok+"); Data 9 \"c\"", e.heads(9, ok, false), data(9, "c", false))
		e.feed("Gone 6 2; Reset 7 7; Reset 9 7", goAway(6, 2))
		e.puts("WINDOW 0 2; WINDOW 0 1")
		e.there(1, 3, 5)
		e.unopened(get, api.ErrGone)
		e.feed("Gone 3 0; Reset 5 7", goAway(3, 0))
		e.feed("Gone 2147483647 4294967295", goAway(api.MaxStream, math.MaxUint32))
		e.there(1, 3)
		e.is(e.Send(3, []byte("x"), true), nil) // those that are left go on
		e.puts(`DATA 3 "x" end`)
		e.feed("Heads 3 ("+ok+") end", e.heads(3, ok, true))
		e.feed("Gone 0 0; Reset 1 7", goAway(0, 0))
		e.there()
	})
	greeted(t, api.Client, wide, func(e *end) {
		e.open(1, get, false)
		e.feed("Gone 1 0", goAway(1, 0))
		e.there(1)
	})
	greeted(t, api.Server, wide, func(e *end) { // whose streams the other side's Last doesn't speak of
		e.feed("Heads 1 ("+get+")", e.heads(1, get, false))
		e.feed("Gone 0 2", goAway(0, 2))
		e.there(1)
		e.feed("Heads 3 ("+get+")", e.heads(3, get, false))
		e.there(1, 3)
		e.puts("")
	})
}

// TestDead: P8.1, P8.3 to P8.8: what died takes nothing more, and has no stream.
func TestDead(t *testing.T) {
	for _, side := range []int{api.Client, api.Server} {
		greeted(t, side, wide, func(e *end) {
			if side == api.Client {
				e.open(1, get, false)
				e.Output()
				e.feed("Heads 1 ("+ok+")", e.heads(1, ok, false))
			} else {
				e.feed("Heads 1 ("+get+")", e.heads(1, get, false))
				e.is(e.Answer(1, list(ok), false), nil)
				e.Output()
			}
			e.feed(`Data 1 "ab"`, data(1, "ab", false))
			e.is(e.Send(1, []byte("xyz"), true), nil)
			e.feed("Fail 3", ping("12345678"), window(0, api.MaxWindow), ping("abcdefgh"))
			if code, dead := e.Dead(); code != api.CFlow || !dead {
				e.Error("Dead", code, dead)
			}
			e.there()
			if e.Waiting(1) != 0 || e.Held(1) != 0 {
				e.Error("bytes of a dead end", e.Waiting(1), e.Held(1))
			}
			e.is(e.Answer(1, list(ok), false), api.ErrGone)
			e.is(e.Answer(9, nil, false), api.ErrGone)
			e.is(e.Send(1, nil, false), api.ErrGone)
			e.is(e.Send(9, nil, false), api.ErrGone)
			e.is(e.Trail(1, list(":a=b")), api.ErrGone)
			e.is(e.Reset(1, -1), api.ErrGone)
			e.is(e.Ate(1, 2), api.ErrGone)
			e.is(e.Ping(make([]byte, 8)), api.ErrGone)
			e.is(e.Ping(nil), api.ErrGone)
			e.is(e.Bye(0), api.ErrGone)
			e.is(e.Bye(-1), api.ErrGone)
			e.unopened(get, api.ErrGone)
			e.unopened("", api.ErrGone)
			e.feed("", settings(), ping("12345678"), rst(2, 0))
			last := map[int]string{api.Client: "0", api.Server: "1"}[side]
			e.puts(`PING "12345678" ack; GOAWAY ` + last + " 3") // what was put out stays; what waited is gone
			e.feed("", settings())
			if code, dead := e.Dead(); code != api.CFlow || !dead {
				e.Error("Dead", code, dead)
			}
		})
	}
}
