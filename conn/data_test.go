package conn_test

import (
	"testing"

	"parley/api"
	"parley/conn"
)

// asking is a server with stream 1 there, its other side open.
func asking(t *testing.T, c conn.Config, script func(e *end)) {
	t.Helper()
	greeted(t, api.Server, c, func(e *end) {
		e.feed("Heads 1 ("+get+")", e.heads(1, get, false))
		script(e)
	})
}

// TestExampleOfData: the chapter's last example.
func TestExampleOfData(t *testing.T) {
	greeted(t, api.Server, conn.Config{Window: 65535, Streams: 1}, func(e *end) {
		e.feed(`Heads 1 (:method=POST :scheme=http :path=/)`, block(1, false, 131, 134, 132))
		e.feed(`Data 1 "ab"`, data(1, "ab", false))
		if n := e.Held(1); n != 2 {
			e.Error("Held", n)
		}
		e.is(e.Ate(1, 2), nil)
		e.puts("WINDOW 0 2; WINDOW 1 2")
	})
}

// TestDataTold: P8.1, what data tells: its bytes, its end; nothing, if it has neither.
func TestDataTold(t *testing.T) {
	asking(t, wide, func(e *end) {
		e.feed(`Data 1 "ab"; Data 1 "c"`, data(1, "ab", false), data(1, "", false), data(1, "c", false), padded(1, "", 9, false))
		e.puts("WINDOW 0 10; WINDOW 1 10")
		e.feed(`Data 1 "" end`, data(1, "", true))
		e.there(1) // its own side has not ended
	})
	asking(t, wide, func(e *end) {
		e.feed(`Data 1 "ab" end`, data(1, "ab", true))
		e.feed("Reset 1 5", data(1, "", false))
		e.puts("RST 1 5; WINDOW 0 2") // what it held, and nothing for a frame that counts nothing
	})
}

// TestDataIdle: P8.1, of an idle stream, ahead of the windows.
func TestDataIdle(t *testing.T) {
	for _, stream := range []int{2, 4, 3, api.MaxStream} {
		asking(t, wide, func(e *end) {
			e.feed("Data 1 *16384; Data 1 *16384; Data 1 *16384", data(1, run(16384), false), data(1, run(16384), false), data(1, run(16384), false))
			e.feed("Fail 1", data(stream, run(16384), false)) // more than what is left, too
			e.puts("GOAWAY 1 1")
		})
	}
	greeted(t, api.Client, wide, func(e *end) {
		e.open(1, get, true)
		e.feed("Fail 1", data(3, "", true))
	})
	greeted(t, api.Client, wide, func(e *end) { e.feed("Fail 1", data(1, "a", true)) })
}

// TestDataOfConnection: P8.1, the connection's window: to its last byte, and not beyond, whichever stream it is of.
func TestDataOfConnection(t *testing.T) {
	full := "Data 1 *16384; Data 1 *16384; Data 1 *16384; Data 1 *16383"
	fill := fed(data(1, run(16384), false), data(1, run(16384), false), data(1, run(16384), false), data(1, run(16383), false))
	asking(t, wide, func(e *end) {
		e.bytes(full, fill)
		e.feed(`Data 1 "" end`, data(1, "", false), data(1, "", true)) // which need no window
		if n := e.Held(1); n != 65535 {
			e.Error("Held", n)
		}
		e.feed("Fail 3", data(1, "a", false)) // and not CClosed of the stream
		e.puts("GOAWAY 1 3")
	})
	asking(t, conn.Config{Window: api.MaxWindow, Streams: 9}, func(e *end) {
		e.feed("", settingsAck())
		e.bytes(full, fill)
		e.feed("Heads 3 ("+get+") end", e.heads(3, get, true))
		e.feed("Reset 3 5", data(3, "", false))
		e.puts("RST 3 5")
		e.feed("Fail 3", data(3, "a", false)) // of a stream that left
	})
	asking(t, wide, func(e *end) {
		e.bytes(full, fill)
		e.is(e.Ate(1, 100), nil)
		e.puts("WINDOW 0 100; WINDOW 1 100")
		e.feed("Data 1 *99", padded(1, run(99), 0, false))
		e.puts("WINDOW 0 1; WINDOW 1 1")
		e.feed("Data 1 \"a\"", data(1, "a", false))
		e.feed("Fail 3", data(1, "b", false))
	})
	asking(t, wide, func(e *end) { // padding counts, and so does the byte that tells it
		e.bytes("Data 1 *16384; Data 1 *16384; Data 1 *16384", fill[:3*(16384+9)])
		e.feed("Data 1 *16000", data(1, run(16000), false))
		e.feed("Fail 3", padded(1, run(200), 183, false)) // 384 of 383
	})
	asking(t, wide, func(e *end) {
		e.bytes("Data 1 *16384; Data 1 *16384; Data 1 *16384", fill[:3*(16384+9)])
		e.feed("Data 1 *16000", data(1, run(16000), false))
		e.feed("Data 1 *200", padded(1, run(200), 182, false))
		e.puts("WINDOW 0 183; WINDOW 1 183")
	})
}

// TestDataOfNone: P8.1, what comes of a stream that is known and not there is given back at once.
func TestDataOfNone(t *testing.T) {
	asking(t, wide, func(e *end) {
		e.feed("Heads 7 ("+get+"); Reset 7 8", e.heads(7, get, false), rst(7, 8))
		for range 9 { // more than the window, if it weren't given back
			e.feed("", data(7, run(16384), false), data(3, run(10000), true))
			e.puts("WINDOW 0 16384; WINDOW 0 10000")
		}
		e.feed("", data(7, "", true), data(3, "", false), padded(5, "", 0, false), padded(5, "ab", 3, true))
		e.puts("WINDOW 0 1; WINDOW 0 6")
		e.there(1)
	})
	asking(t, conn.Config{Window: 65535, Streams: 1}, func(e *end) {
		e.feed("", e.heads(3, get, false), data(3, "abc", true)) // a stream that is refused is known
		e.puts("RST 3 7; WINDOW 0 3")
	})
	greeted(t, api.Client, wide, func(e *end) {
		e.open(1, get, true)
		e.is(e.Reset(1, api.CCancel), nil)
		e.feed("", e.heads(1, ok, false), data(1, "abc", true))
		e.puts("HEADERS 1 (" + get + ") end; RST 1 8; WINDOW 0 3")
	})
}

// TestDataFaults: P8.1, the faults of the stream: what the frame counts is given back behind what the stream held.
func TestDataFaults(t *testing.T) {
	greeted(t, api.Client, wide, func(e *end) { // no list came ahead
		e.open(1, get, false)
		e.Output()
		e.feed("Reset 1 1", padded(1, "ab", 3, true))
		e.puts("RST 1 1; WINDOW 0 6")
		e.there()
	})
	greeted(t, api.Client, conn.Config{Window: 0}, func(e *end) { // ahead of the window
		e.feed("", settingsAck())
		e.open(1, get, false)
		e.Output()
		e.feed("Reset 1 1", data(1, "ab", false))
		e.puts("RST 1 1; WINDOW 0 2")
	})
	asking(t, wide, func(e *end) { // it has ended
		e.feed(`Data 1 "abc"; Data 1 "de" end`, data(1, "abc", false), data(1, "de", true))
		e.is(e.Ate(1, 1), nil)
		e.puts("WINDOW 0 1")
		e.feed("Reset 1 5", data(1, "fghijk", false))
		e.puts("RST 1 5; WINDOW 0 4; WINDOW 0 6")
		e.there()
	})
	asking(t, conn.Config{Window: 4, Streams: 9}, func(e *end) { // ahead of the window
		e.feed("", settingsAck())
		e.feed(`Data 1 "abcd" end`, data(1, "abcd", true))
		e.feed("Reset 1 5", data(1, "e", false))
		e.puts("RST 1 5; WINDOW 0 4; WINDOW 0 1")
	})
	asking(t, conn.Config{Window: 4, Streams: 9}, func(e *end) { // the stream's window
		e.feed("", settingsAck())
		e.feed(`Data 1 "abcd"; Reset 1 3`, data(1, "abcd", false), data(1, "e", true))
		e.puts("RST 1 3; WINDOW 0 4; WINDOW 0 1")
		e.feed("", data(1, "f", false))
		e.puts("WINDOW 0 1")
	})
	asking(t, conn.Config{Window: 4, Streams: 9}, func(e *end) { // padding counts
		e.feed("", settingsAck())
		e.feed("Reset 1 3", padded(1, "ab", 2, false))
		e.puts("RST 1 3; WINDOW 0 5")
	})
	asking(t, wide, func(e *end) { // all is given back: the whole window may come again
		for n := 3; n < 40; n += 2 {
			e.feed("Heads "+number(n)+" ("+get+"); Data "+number(n)+" *9000 end", e.heads(n, get, false), data(n, run(9000), true))
			e.feed("Reset "+number(n)+" 5", data(n, run(16384), false))
		}
		e.bytes("Data 1 *16384; Data 1 *16384; Data 1 *16384; Data 1 *16383", fed(data(1, run(16384), false), data(1, run(16384), false), data(1, run(16384), false), data(1, run(16383), false)))
		e.feed("Fail 3", data(1, "a", false))
	})
}

// TestPadding: P8.1, what counts more than its bytes is given back at once, to both windows.
func TestPadding(t *testing.T) {
	asking(t, conn.Config{Window: 6, Streams: 9}, func(e *end) {
		e.feed("", settingsAck())
		for range 5 {
			e.feed("", padded(1, "", 5, false))
			e.puts("WINDOW 0 6; WINDOW 1 6")
		}
		e.feed(`Data 1 "a"`, padded(1, "a", 4, false))
		e.puts("WINDOW 0 5; WINDOW 1 5")
		e.feed(`Data 1 "b"`, padded(1, "b", 0, false))
		e.puts("WINDOW 0 1; WINDOW 1 1")
		if n := e.Held(1); n != 2 {
			e.Error("Held", n)
		}
		e.feed(`Data 1 "cd" end`, padded(1, "cd", 1, true))
		e.puts("WINDOW 0 2") // not to a stream that ends
		e.is(e.Ate(1, 4), nil)
		e.puts("WINDOW 0 4")
	})
	asking(t, conn.Config{Window: 6, Streams: 9}, func(e *end) {
		e.feed("", settingsAck())
		e.feed(`Data 1 "" end`, padded(1, "", 5, true))
		e.puts("WINDOW 0 6")
	})
	greeted(t, api.Client, wide, func(e *end) { // what is held when it leaves stands behind
		e.open(1, get, true)
		e.Output()
		e.feed("Heads 1 ("+ok+"); Data 1 \"ab\" end", e.heads(1, ok, false), padded(1, "ab", 6, true))
		e.puts("WINDOW 0 7; WINDOW 0 2")
		e.there()
	})
}

// TestAte: P8.5, and what its errors leave as it is.
func TestAte(t *testing.T) {
	asking(t, conn.Config{Window: 5, Streams: 9}, func(e *end) {
		e.feed("", settingsAck())
		e.is(e.Ate(1, 1), api.ErrNumber)
		e.feed(`Data 1 "abcde"`, data(1, "abcde", false))
		for _, n := range []int{0, -1, 6, 1 << 32, 1<<32 + 1, -1 << 62} {
			e.is(e.Ate(1, n), api.ErrNumber)
		}
		for _, stream := range []int{0, 2, 3, -1, 1 << 32, 1<<32 + 1} {
			e.is(e.Ate(stream, 1), api.ErrStream)
			e.is(e.Ate(stream, 0), api.ErrStream)
		}
		if n := e.Held(1); n != 5 || e.Held(3) != 0 || e.Held(0) != 0 || e.Held(-1) != 0 {
			e.Error("Held", n)
		}
		e.puts("")
		e.is(e.Ate(1, 2), nil)
		e.is(e.Ate(1, 4), api.ErrNumber)
		e.is(e.Ate(1, 3), nil)
		e.puts("WINDOW 0 2; WINDOW 1 2; WINDOW 0 3; WINDOW 1 3")
		e.feed(`Data 1 "fghij" end`, data(1, "fghij", true)) // both windows were given
		e.is(e.Ate(1, 5), nil)
		e.puts("WINDOW 0 5")
		e.is(e.Ate(1, 1), api.ErrNumber)
	})
	asking(t, conn.Config{Window: 1 << 20, Streams: 9}, func(e *end) { // the connection's, too
		e.feed("", settingsAck())
		for range 20 {
			e.feed("Data 1 *16384", data(1, run(16384), false))
			e.is(e.Ate(1, 16384), nil)
		}
	})
	asking(t, wide, func(e *end) {
		e.feed("Data 1 *16384; Data 1 *16384; Data 1 *16384", data(1, run(16384), false), data(1, run(16384), false), data(1, run(16384), false))
		e.is(e.Ate(1, 49152), nil)
		e.feed("Data 1 *16384; Data 1 *16384; Data 1 *16384", data(1, run(16384), false), data(1, run(16384), false), data(1, run(16384), false))
		e.puts("WINDOW 0 49152; WINDOW 1 49152")
	})
}

// TestStreamWindow: P8.1, a stream's window: 65535 until the own SETTINGS are acknowledged; then each is shifted.
func TestStreamWindow(t *testing.T) {
	asking(t, conn.Config{Window: 3, Streams: 9}, func(e *end) {
		e.feed("Data 1 *16384", data(1, run(16384), false)) // as it was not acknowledged
		e.feed("Heads 3 ("+get+"); Data 3 \"abc\"", e.heads(3, get, false), data(3, "abc", false))
		e.feed("Heads 5 ("+get+"); Data 5 \"ab\"", e.heads(5, get, false), data(5, "ab", false))
		e.feed("", settingsAck())
		e.is(e.Ate(1, 16384), nil)
		e.feed(`Data 1 "abc"`, data(1, "abc", false), data(3, "", false))
		e.feed(`Data 5 "c"`, data(5, "c", false))
		e.puts("WINDOW 0 16384; WINDOW 1 16384")
		e.feed("Heads 7 ("+get+"); Data 7 \"abc\"", e.heads(7, get, false), data(7, "abc", false)) // one that comes behind
		for _, n := range []int{1, 3, 5, 7} {
			e.feed("Reset "+number(n)+" 3", data(n, "x", false))
			e.puts("RST " + number(n) + " 3; WINDOW 0 3; WINDOW 0 1")
		}
	})
	asking(t, conn.Config{Window: 3, Streams: 9}, func(e *end) { // below 0
		e.feed(`Data 1 "0123456789"`, data(1, "0123456789", false))
		e.feed("", settingsAck())
		e.is(e.Ate(1, 7), nil)
		e.Output()
		e.feed(`Data 1 "" end`, data(1, "", false), data(1, "", true)) // 0 left
		e.there(1)
	})
	asking(t, conn.Config{Window: 3, Streams: 9}, func(e *end) {
		e.feed(`Data 1 "0123456789"`, data(1, "0123456789", false))
		e.feed("", settingsAck())
		e.is(e.Ate(1, 8), nil)
		e.Output()
		e.feed(`Data 1 "a"; Reset 1 3`, data(1, "a", false), data(1, "b", false))
		e.puts("RST 1 3; WINDOW 0 3; WINDOW 0 1")
	})
	asking(t, conn.Config{Window: api.MaxWindow, Streams: 9}, func(e *end) { // above
		e.feed("Data 1 *16384", data(1, run(16384), false))
		e.feed("", settingsAck())
		for range 200 { // what was taken can be given again, and not more
			e.is(e.Ate(1, 16384), nil)
			e.feed("Data 1 *16384", data(1, run(16384), false))
		}
	})
}

// number is n as a text.
func number(n int) string {
	if n < 10 {
		return string(rune('0' + n))
	}
	return number(n/10) + number(n%10)
}
