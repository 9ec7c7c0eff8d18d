package conn_test

import (
	"bytes"
	"math"
	"testing"

	"parley/api"
	"parley/conn"
	"parley/frame"
	"parley/hpack"
)

// first is the other side's first bytes, with settings.
func first(side int, l ...int) []byte {
	if side == api.Server {
		return append(frame.Preface(), fed(settings(l...))...)
	}
	return fed(settings(l...))
}

// TestSettings: P8.1, each SETTINGS is acknowledged and tells Ready; the own one is acknowledged once.
func TestSettings(t *testing.T) {
	for _, side := range []int{api.Client, api.Server} {
		each(t, side, wide, func(e *end) {
			e.bytes("Ready", first(side, 9, 9, 2, 0, 5, 16384, 6, 0, 3, 0, 65535, math.MaxUint32))
			e.feed("Ready; Ready", settings(), ping("12345678"), settings(2, 1, 5, 1<<24-1))
			e.puts(`SETTINGS ack; SETTINGS ack; PING "12345678" ack; SETTINGS ack`)
			e.feed("", settingsAck())
			e.feed("Ready", settings())
			e.puts("SETTINGS ack")
			e.feed("Fail 1", settingsAck()) // the other side's own are no reason for another one
			e.puts("GOAWAY 0 1")
		})
	}
}

// blocks is the blocks of the HEADERS among what was put out.
func blocks(b []byte) [][]byte {
	var out [][]byte
	for _, f := range frame.Frames(b, api.MaxFrame) {
		if f.Type == api.FHeaders {
			out = append(out, f.Payload)
		}
	}
	return out
}

// TestTable: P8.1, P8.7: the encoder's first table, and what becomes of it, shows in the blocks.
func TestTable(t *testing.T) {
	for _, x := range [][]int{{}, {0}, {31}, {70}, {4096}, {4097}, {1 << 20}, {math.MaxUint32}, {0, 4096}, {100, 0, 50}, {4096, 5000, 1 << 31}} {
		want, _ := hpack.NewEncoder(api.MaxTable)
		var l []int
		for _, n := range x {
			want.Resize(min(n, api.MaxTable))
			l = append(l, api.STable, n)
		}
		lists := []string{get + " a=b c=d", get + " a=b", get + " !a=b c=d e=" + run(3000)}
		e := newEnd(t, api.Client, wide)
		e.Output()
		e.open(1, lists[0], true) // ahead of all SETTINGS
		plain, _ := hpack.NewEncoder(api.MaxTable)
		if b := blocks(e.Output()); len(b) != 1 || !bytes.Equal(b[0], plain.Encode(list(lists[0]))) {
			t.Error("the first encoder's table is another one", b)
		}

		e = newEnd(t, api.Client, wide)
		e.Output()
		e.bytes("Ready", first(api.Client, l...))
		for i, s := range lists {
			e.open(2*i+1, s, true)
		}
		got := blocks(e.Output())
		for i, s := range lists {
			if b := want.Encode(list(s)); !bytes.Equal(got[i], b) {
				t.Errorf("with tables of %v block %d is %v; want %v", x, i, got[i], b)
			}
		}
	}
	e := newEnd(t, api.Server, wide) // of a server likewise, and in several SETTINGS
	e.Output()
	e.bytes("Ready", first(api.Server, api.STable, 64))
	e.feed("Heads 1 ("+get+"); Heads 3 ("+get+")", e.heads(1, get, false), e.heads(3, get, false))
	e.feed("Ready; Ready", settings(api.STable, 0), settings(api.STable, 200))
	want, _ := hpack.NewEncoder(api.MaxTable)
	for _, n := range []int{64, 0, 200} {
		want.Resize(n)
	}
	for _, n := range []int{1, 3} {
		e.is(e.Answer(n, list(ok+" a=b"), true), nil)
		if b := blocks(e.Output()); len(b) != 1 || !bytes.Equal(b[0], want.Encode(list(ok+" a=b"))) {
			t.Error("a server's block", b)
		}
	}
}

// TestMost: P8.1, P8.3: how many streams the other side lets be there.
func TestMost(t *testing.T) {
	e := newEnd(t, api.Client, conn.Config{Window: 9})
	for n := range 300 { // at first it doesn't say
		e.open(2*n+1, get, n%2 == 0)
	}
	e.feed("Ready", settings(api.SStreams, 301))
	e.open(601, get, true)
	e.unopened(get, api.ErrMany)
	greeted(t, api.Client, conn.Config{}, func(e *end) {
		e.feed("Ready", settings(api.SStreams, 0))
		e.unopened(get, api.ErrMany)
		e.feed("Ready", settings(api.SStreams, 1))
		e.open(1, get, true)
		e.unopened(get, api.ErrMany)
		e.feed("Ready", settings(api.SStreams, 9, api.SStreams, 2)) // the last one holds
		e.open(3, get, true)
		e.unopened(get, api.ErrMany)
		e.unopened("", api.ErrMany) // ahead of ErrHead
		e.feed("Ready", settings(api.SStreams, 1))
		e.there(1, 3) // those that are there stay
		e.feed("Heads 1 ("+ok+") end", e.heads(1, ok, true))
		e.unopened(get, api.ErrMany)
		e.feed("Reset 3 7", rst(3, 7))
		e.open(5, get, true)
		e.unopened(get, api.ErrMany)
		e.feed("Ready", settings(api.SStreams, math.MaxUint32))
		for n := 7; n < 200; n += 2 {
			e.open(n, get, true)
		}
	})
	greeted(t, api.Server, wide, func(e *end) { // what a client says of it changes nothing of its own streams
		e.feed("Ready", settings(api.SStreams, 0))
		e.feed("Heads 1 ("+get+")", e.heads(1, get, false))
	})
}

// TestFirstWindow: P8.1, P8.7: the windows of what may be sent, and how SWindow shifts them.
func TestFirstWindow(t *testing.T) {
	asked(t, func(e *end) { // 65535 at first
		e.is(e.Send(1, []byte(run(70000)), true), nil)
		e.puts("DATA 1 *16384; DATA 1 *16384; DATA 1 *16384; DATA 1 *16383")
		e.feed("", window(0, 10000))
		e.puts("") // it is the stream's, too
		e.feed("", window(1, 1))
		e.puts(`DATA 1 "5"`)
		e.feed("", window(1, 10000))
		e.puts("DATA 1 *4464 end")
	})
	asked(t, func(e *end) {
		e.is(e.Send(1, []byte(run(100)), false), nil)
		e.feed("Ready", settings(api.SWindow, 60))
		e.puts("SETTINGS ack; DATA 1 *60")
		e.feed("Ready", settings(api.SWindow, 20)) // -40 are left
		e.feed("", window(1, 40))
		e.puts("SETTINGS ack")
		e.feed("", window(1, 3))
		e.puts(`DATA 1 "012"`)
		e.open(3, get, false)
		e.is(e.Send(3, []byte(run(100)), false), nil)
		e.puts("HEADERS 3 (" + get + `); DATA 3 "` + run(20) + `"`) // what a new one begins with
		e.feed("Ready", settings(api.SWindow, 0, api.SWindow, 25))
		e.puts(`SETTINGS ack; DATA 1 "34567"; DATA 3 "01234"`)
		e.feed("Ready", settings(api.SWindow, 25))
		e.puts("SETTINGS ack")
		e.feed("Ready", settings(api.SWindow, api.MaxWindow))
		e.puts("SETTINGS ack; DATA 1 \"" + run(40)[8:] + "\"; DATA 3 *75")
	})
	asking(t, wide, func(e *end) { // of a server likewise; also of a stream that did not answer yet
		e.feed("Ready", settings(api.SWindow, 2))
		e.is(e.Answer(1, list(ok), false), nil)
		e.is(e.Send(1, []byte("abc"), true), nil)
		e.puts("SETTINGS ack; HEADERS 1 (" + ok + `); DATA 1 "ab"`)
		e.feed("Heads 3 ("+get+") end", e.heads(3, get, true))
		e.is(e.Answer(3, list(ok), false), nil)
		e.is(e.Send(3, []byte("xyz"), true), nil)
		e.puts("HEADERS 3 (" + ok + `); DATA 3 "xy"`)
		e.feed("Ready", settings(api.SWindow, 3))
		e.puts(`SETTINGS ack; DATA 1 "c" end; DATA 3 "z" end`)
	})
	asked(t, func(e *end) { // the window of the connection is not shifted
		e.feed("Ready", settings(api.SWindow, 100000))
		e.is(e.Send(1, []byte(run(100000)), true), nil)
		e.puts("SETTINGS ack; DATA 1 *16384; DATA 1 *16384; DATA 1 *16384; DATA 1 *16383")
	})
}

// TestWindowsPassed: P8.1, CFlow of SETTINGS: of the connection, with nothing put out but what came ahead.
func TestWindowsPassed(t *testing.T) {
	asked(t, func(e *end) {
		e.feed("", window(1, api.MaxWindow-65535))
		e.feed("Ready", settings(api.SWindow, 65534, api.SWindow, 65535))
		e.puts("SETTINGS ack")
		e.feed("Fail 3", settings(api.STable, 0, api.SWindow, 65536), ping("12345678"))
		e.puts("GOAWAY 0 3")
	})
	greeted(t, api.Client, wide, func(e *end) { // without a stream there is none to be passed
		e.feed("Ready; Ready", settings(api.SWindow, api.MaxWindow), settings(api.SWindow, 0))
		e.open(1, get, false)
		e.feed("", window(1, api.MaxWindow))
		e.feed("Fail 3", settings(api.SWindow, 1))
	})
	asked(t, func(e *end) { // setting by setting: that the last one would let it be helps nothing
		e.feed("", window(1, api.MaxWindow-65535))
		e.feed("Fail 3", settings(api.SWindow, 65536, api.SWindow, 0))
	})
	asked(t, func(e *end) { // one of several, the last one
		e.open(3, get, false)
		e.open(5, get, true)
		e.Output()
		e.feed("", window(5, api.MaxWindow-65535))
		e.feed("Fail 3", settings(api.SWindow, 65536))
		e.puts("GOAWAY 0 3")
	})
	asking(t, wide, func(e *end) {
		e.feed("Ready", settings(api.SWindow, api.MaxWindow))
		e.is(e.Answer(1, list(ok), false), nil)
		e.is(e.Send(1, []byte("a"), false), nil)
		e.Output()
		e.feed("", window(1, 1))
		e.feed("Reset 1 3", window(1, 1))
		e.puts("RST 1 3")
	})
}

// TestWindowUpdates: P8.1, WINDOW_UPDATE of the connection, of a stream that is there, of one that left, of one that is idle.
func TestWindowUpdates(t *testing.T) {
	for _, side := range []int{api.Client, api.Server} {
		greeted(t, side, wide, func(e *end) {
			e.feed("", window(0, 1), window(0, api.MaxWindow-65536))
			e.feed("Fail 3", window(0, 1))
			e.puts("GOAWAY 0 3")
		})
		for _, stream := range []int{1, 2, 3, api.MaxStream} {
			greeted(t, side, wide, func(e *end) { e.feed("Fail 1", window(stream, 1)) })
		}
	}
	asking(t, wide, func(e *end) {
		e.feed(`Heads 5 (`+get+`); Data 5 "ab"`, e.heads(5, get, false), data(5, "ab", false))
		e.feed("", window(5, api.MaxWindow-65535), window(1, api.MaxWindow-65535), window(3, api.MaxWindow))
		e.feed("Reset 5 3", window(5, 1))
		e.puts("RST 5 3; WINDOW 0 2")
		e.feed("", window(5, api.MaxWindow), window(5, api.MaxWindow))
		e.there(1)
		e.feed("Reset 1 3", window(1, api.MaxWindow))
		e.feed("Fail 1", window(4, 1))
		e.puts("RST 1 3; GOAWAY 5 1")
	})
	greeted(t, api.Client, wide, func(e *end) { // also where the own side has ended
		e.open(1, get, true)
		e.Output()
		e.feed("", window(1, api.MaxWindow-65535))
		e.feed("Reset 1 3", window(1, 1))
		e.puts("RST 1 3")
		e.feed("Fail 1", window(3, 1))
	})
	asked(t, func(e *end) { // the connection's
		e.feed("Ready", settings(api.SWindow, api.MaxWindow))
		e.is(e.Send(1, []byte(run(66000)), false), nil)
		e.puts("SETTINGS ack; DATA 1 *16384; DATA 1 *16384; DATA 1 *16384; DATA 1 *16383")
		e.feed("", window(1, 1000))
		e.puts("")
		e.feed("", window(0, 100))
		e.puts("DATA 1 *100")
		e.feed("", window(0, 100), window(0, 200), window(0, 200))
		e.puts("DATA 1 *365")
	})
}
