package conn_test

import (
	"bytes"
	"math"
	"strings"
	"testing"

	"parley/api"
	"parley/conn"
	"parley/frame"
	"parley/hpack"
)

// great is list with so much behind it that it has n bytes.
func great(l string, n int) string {
	l += " big="
	return l + strings.Repeat("x", n-hpack.Size(list(l)))
}

// TestOpen: P8.3, and which of its errors goes first.
func TestOpen(t *testing.T) {
	greeted(t, api.Client, wide, func(e *end) {
		e.unopened("", api.ErrHead)
		e.unopened(ok, api.ErrHead)
		e.unopened(get+" A=b", api.ErrHead)
		e.unopened(great(get+" A=b", api.MaxList+1), api.ErrHead) // ahead of ErrList
		e.unopened(great(get, api.MaxList+1), api.ErrList)
		e.puts("")
		e.there()
		e.open(1, great(get, api.MaxList), true)
		e.open(3, get, false)
		e.puts("HEADERS 1 (" + text(list(great(get, api.MaxList))) + ") end; HEADERS 3 (" + get + ")")
		e.there(1, 3)
		e.is(e.Send(1, nil, false), api.ErrStream) // its own side has ended
		e.is(e.Trail(1, nil), api.ErrStream)
		e.is(e.Send(3, nil, false), nil)
		e.feed("Reset 1 7; Reset 3 7", rst(1, 7), rst(3, 7))
		e.open(5, get+" !a=b", true) // no number comes again
		e.puts("HEADERS 5 (" + get + " !a=b) end")
	})
	greeted(t, api.Server, wide, func(e *end) {
		e.unopened(get, api.ErrRole)
		e.unopened("", api.ErrRole)
		e.is(e.Bye(0), nil)
		e.unopened(get, api.ErrRole) // ahead of ErrGone
	})
	greeted(t, api.Client, wide, func(e *end) {
		e.feed("Ready; Gone 0 0", settings(api.SStreams, 0), goAway(0, 0))
		e.unopened("", api.ErrGone) // ahead of ErrMany
		e.unopened(get, api.ErrGone)
	})
	greeted(t, api.Client, wide, func(e *end) {
		e.feed("Ready", settings(api.SStreams, 0))
		e.unopened(great("", api.MaxList+1), api.ErrMany)
	})
	each(t, api.Client, wide, func(e *end) { // ahead of the other side's first bytes
		e.open(1, get, true)
		e.puts("HEADERS 1 (" + get + ") end")
	})
}

// TestAnswer: P8.3, and which of its errors goes first.
func TestAnswer(t *testing.T) {
	greeted(t, api.Server, wide, func(e *end) {
		for _, stream := range []int{1, 0, -1, 2, math.MaxInt, math.MinInt} {
			e.is(e.Answer(stream, list(ok), false), api.ErrStream)
			e.is(e.Answer(stream, nil, false), api.ErrStream)
		}
		e.feed("Heads 1 ("+get+")", e.heads(1, get, false))
		e.feed("Heads 3 ("+get+") end", e.heads(3, get, true))
		for _, l := range []string{"", get, ":status=100", ":status=199", ":status=600", ok + " A=b", great(":status=199", api.MaxList+1), great("a=b", api.MaxList+1)} {
			e.is(e.Answer(1, list(l), true), api.ErrHead)
			e.is(e.Answer(3, list(l), false), api.ErrHead)
		}
		e.is(e.Answer(1, list(great(ok, api.MaxList+1)), true), api.ErrList)
		e.puts("")
		e.is(e.Send(1, nil, false), api.ErrStream) // it is fresh still
		e.is(e.Answer(1, list(great(ok, api.MaxList)), false), nil)
		e.is(e.Answer(1, list(ok), false), api.ErrStream)
		e.is(e.Answer(3, list(":status=599 !a=b"), true), nil)
		e.there(1)
		e.is(e.Answer(3, list(ok), false), api.ErrStream)
		e.is(e.Answer(3, nil, false), api.ErrStream) // ahead of ErrHead
		e.puts("HEADERS 1 (" + text(list(great(ok, api.MaxList))) + "); HEADERS 3 (:status=599 !a=b) end")
	})
	asking(t, wide, func(e *end) { // with end, ahead of the other side's
		e.is(e.Answer(1, list(ok), true), nil)
		e.there(1)
		e.is(e.Answer(1, list(ok), true), api.ErrStream)
		e.is(e.Send(1, nil, true), api.ErrStream)
		e.is(e.Trail(1, nil), api.ErrStream)
		e.feed(`Data 1 "a"`, data(1, "a", false))
		e.is(e.Ate(1, 1), nil)
		e.puts("HEADERS 1 (" + ok + ") end; WINDOW 0 1; WINDOW 1 1")
	})
	asking(t, wide, func(e *end) { // what it held stands right behind
		e.feed("Heads 3 ("+get+") end", e.heads(3, get, true))
		e.feed(`Data 1 "ab" end`, data(1, "ab", true))
		e.is(e.Answer(1, list(ok), true), nil)
		e.is(e.Answer(3, list(ok), true), nil)
		e.there()
		e.puts("HEADERS 1 (" + ok + ") end; WINDOW 0 2; HEADERS 3 (" + ok + ") end")
	})
	asked(t, func(e *end) {
		e.is(e.Answer(1, list(ok), false), api.ErrRole)
		e.is(e.Answer(3, nil, false), api.ErrRole) // ahead of ErrStream
		e.feed("Gone 1 0", goAway(1, 0))
		e.is(e.Bye(0), nil)
		e.is(e.Answer(1, list(ok), false), api.ErrRole)
	})
	asking(t, wide, func(e *end) { // neither GOAWAY nor Bye keeps a server from it
		e.feed("Gone 0 0", goAway(0, 0))
		e.is(e.Bye(0), nil)
		e.is(e.Answer(1, list(ok), false), nil)
	})
}

// TestSend: P8.4, and what its errors leave as it is.
func TestSend(t *testing.T) {
	asking(t, wide, func(e *end) {
		for _, stream := range []int{1, 3, 2, 0, -1, math.MaxInt, math.MinInt} { // fresh; not there
			e.is(e.Send(stream, []byte("a"), true), api.ErrStream)
			e.is(e.Trail(stream, nil), api.ErrStream)
			e.is(e.Trail(stream, list(":a=b")), api.ErrStream) // ahead of ErrHead
			if n := e.Waiting(stream); n != 0 {
				e.Error("Waiting", stream, n)
			}
		}
		e.is(e.Answer(1, list(ok), false), nil)
		e.is(e.Send(1, []byte("abc"), false), nil)
		e.is(e.Send(1, nil, false), nil)
		e.is(e.Send(1, []byte("de"), false), nil)
		if n := e.Waiting(1); n != 5 {
			e.Error("Waiting", n)
		}
		e.puts("HEADERS 1 (" + ok + `); DATA 1 "abcde"`)
		if n := e.Waiting(1); n != 0 {
			e.Error("Waiting", n)
		}
		e.is(e.Send(1, []byte("f"), true), nil)
		e.is(e.Send(1, []byte("g"), false), api.ErrStream) // asked to end
		e.is(e.Send(1, nil, true), api.ErrStream)
		e.is(e.Trail(1, list("a=b")), api.ErrStream)
		if n := e.Waiting(1); n != 1 {
			e.Error("Waiting", n)
		}
		e.puts(`DATA 1 "f" end`)
		e.is(e.Send(1, nil, true), api.ErrStream) // ended
		e.is(e.Trail(1, nil), api.ErrStream)
		e.puts("")
	})
	asked(t, func(e *end) { // ahead of an answer
		e.is(e.Send(1, []byte("a"), false), nil)
		e.puts(`DATA 1 "a"`)
		e.is(e.Trail(1, list("a=b")), nil)
		e.puts("HEADERS 1 (a=b) end")
	})
}

// TestTrail: P8.4, and which of its errors goes first.
func TestTrail(t *testing.T) {
	asking(t, wide, func(e *end) {
		e.is(e.Answer(1, list(ok), false), nil)
		e.is(e.Trail(1, list(great("A=b", api.MaxList+1))), api.ErrHead) // ahead of ErrList
		e.is(e.Trail(1, list(ok)), api.ErrHead)
		e.is(e.Trail(1, list("te=gzip")), api.ErrHead)
		e.is(e.Trail(1, list(great("", api.MaxList+1))), api.ErrList)
		e.is(e.Send(1, []byte("ab"), false), nil) // it is not asked to end
		e.is(e.Trail(1, list(great("", api.MaxList))), nil)
		e.is(e.Trail(1, nil), api.ErrStream)
		e.is(e.Send(1, nil, true), api.ErrStream)
		if n := e.Waiting(1); n != 2 {
			e.Error("Waiting", n)
		}
		e.puts("HEADERS 1 (" + ok + `); DATA 1 "ab"; HEADERS 1 (` + text(list(great("", api.MaxList))) + ") end")
		e.there(1)
		e.is(e.Trail(1, nil), api.ErrStream)
		e.feed("Trailers 1 ()", e.heads(1, "", true))
		e.there()
	})
	asking(t, wide, func(e *end) { // of no header
		e.is(e.Answer(1, list(ok), false), nil)
		e.is(e.Trail(1, nil), nil)
		e.puts("HEADERS 1 (" + ok + "); HEADERS 1 () end")
	})
}

// TestReset: P8.4: what waits is dropped, what was held is given back; no event.
func TestReset(t *testing.T) {
	asking(t, wide, func(e *end) {
		for _, stream := range []int{0, -1, 2, 3, math.MaxInt, math.MinInt} {
			e.is(e.Reset(stream, 0), api.ErrStream)
			e.is(e.Reset(stream, -1), api.ErrStream) // ahead of ErrNumber
		}
		for _, code := range []int{-1, 1 << 32, math.MaxInt, math.MinInt} {
			e.is(e.Reset(1, code), api.ErrNumber)
		}
		e.there(1)
		e.feed(`Data 1 "abc"`, data(1, "abc", false))
		e.is(e.Answer(1, list(ok), false), nil)
		e.is(e.Send(1, []byte("abc"), true), nil)
		e.is(e.Reset(1, math.MaxUint32), nil)
		e.is(e.Reset(1, 0), api.ErrStream)
		e.is(e.Ate(1, 1), api.ErrStream)
		e.there()
		if e.Waiting(1) != 0 || e.Held(1) != 0 {
			e.Error("bytes of a stream that left", e.Waiting(1), e.Held(1))
		}
		e.feed("", data(1, "", true), e.heads(1, "", true), window(1, 1), rst(1, 0))
		e.puts("HEADERS 1 (" + ok + "); RST 1 4294967295; WINDOW 0 3")
	})
	asked(t, func(e *end) {
		e.is(e.Trail(1, list("a=b")), nil)
		e.is(e.Reset(1, 0), nil)
		e.puts("RST 1 0")
		e.feed("", e.heads(1, ok+" a=b", false)) // is decoded all the same
		e.open(3, get, true)
		e.Output()
		e.feed("Heads 3 ("+ok+" a=b) end", block(3, true, 136, 190))
	})
}

// TestBye: P8.6: what it puts out, and that nothing is opened behind it.
func TestBye(t *testing.T) {
	greeted(t, api.Server, wide, func(e *end) {
		e.feed("Heads 3 ("+get+")", e.heads(3, get, false))
		for _, code := range []int{-1, 1 << 32, math.MaxInt, math.MinInt} {
			e.is(e.Bye(code), api.ErrNumber)
		}
		e.feed("Heads 5 ("+get+")", e.heads(5, get, false)) // an error is no Bye
		e.is(e.Bye(math.MaxUint32), nil)
		e.feed("", e.heads(7, get, false), e.heads(9, "a=b", false)) // whatever the list is
		e.is(e.Bye(0), nil)
		e.puts("GOAWAY 5 4294967295; RST 7 7; RST 9 7; GOAWAY 9 0")
		e.there(3, 5)
		e.is(e.Answer(3, list(ok), true), nil)
		e.feed(`Data 3 "a" end`, data(3, "a", true)) // those that are there go on
		e.puts("HEADERS 3 (" + ok + ") end; WINDOW 0 1")
		if _, dead := e.Dead(); dead {
			e.Error("dead")
		}
	})
	asked(t, func(e *end) {
		e.is(e.Bye(1<<32), api.ErrNumber)
		e.open(3, get, false)
		e.is(e.Bye(2), nil)
		e.unopened(get, api.ErrGone)
		e.unopened("", api.ErrGone)
		e.puts("HEADERS 3 (" + get + "); GOAWAY 0 2")
		e.there(1, 3)
		e.is(e.Send(3, []byte("a"), true), nil)
		e.puts(`DATA 3 "a" end`)
		e.feed("Heads 1 ("+ok+") end", e.heads(1, ok, true))
	})
}

// TestRounds: P8.7: round by round, rising, a frame of each stream at most.
func TestRounds(t *testing.T) {
	greeted(t, api.Client, wide, func(e *end) {
		for n := 1; n < 12; n += 2 {
			e.open(n, get, false)
		}
		e.Output()
		e.is(e.Send(9, []byte(run(20000)), true), nil)
		e.is(e.Send(5, []byte(run(16385)), false), nil)
		e.is(e.Trail(5, list("a=b")), nil)
		e.is(e.Send(1, []byte("ab"), false), nil)
		e.is(e.Send(7, nil, true), nil)
		e.is(e.Trail(11, list("a=b")), nil)
		e.is(e.Ping([]byte("12345678")), nil) // what was put out goes ahead
		e.puts(`PING "12345678"; DATA 1 "ab"; DATA 5 *16384; DATA 7 "" end; DATA 9 *16384; HEADERS 11 (a=b) end; DATA 5 "4"; DATA 9 *3616 end; HEADERS 5 (a=b) end`)
		e.there(1, 3, 5, 7, 9, 11)
	})
	greeted(t, api.Client, wide, func(e *end) { // of MaxFrame bytes, and none behind
		e.open(1, get, false)
		e.open(3, get, false)
		e.Output()
		e.is(e.Send(1, []byte(run(16384)), true), nil)
		e.is(e.Send(3, []byte(run(16384)), false), nil)
		e.puts("DATA 1 *16384 end; DATA 3 *16384")
		e.is(e.Send(3, nil, true), nil)
		e.puts(`DATA 3 "" end`)
	})
	greeted(t, api.Client, wide, func(e *end) { // the connection's window goes to those ahead
		for n := 1; n < 8; n += 2 {
			e.open(n, get, false)
			e.is(e.Send(n, []byte(run(30000)), true), nil)
		}
		e.open(9, get, false)
		e.is(e.Send(9, nil, true), nil)
		e.open(11, get, false)
		e.is(e.Send(11, []byte("a"), false), nil)
		e.is(e.Trail(11, nil), nil)
		e.Output()
		for n, want := range map[int]int{1: 13616, 3: 13616, 5: 13616, 7: 13617, 9: 0, 11: 1} {
			if e.Waiting(n) != want {
				e.Error("Waiting", n, e.Waiting(n))
			}
		}
		e.feed("", window(0, 13617))
		e.puts(`DATA 1 *13616 end; DATA 3 "4"`)
		e.feed("", window(0, 40000))
		e.puts(`DATA 3 *13615 end; DATA 5 *13616 end; DATA 7 *12769`)
		e.feed("", window(0, 848))
		e.puts(`DATA 7 *848 end`)
		e.feed("", window(0, 1))
		e.puts(`DATA 11 "a"; HEADERS 11 () end`)
	})
	greeted(t, api.Client, wide, func(e *end) { // a stream without a window doesn't stop the others, nor those that need none
		e.feed("Ready", settings(api.SWindow, 3))
		for n := 1; n < 8; n += 2 {
			e.open(n, get, false)
		}
		e.Output()
		e.is(e.Send(1, []byte("abcd"), true), nil)
		e.is(e.Send(3, []byte("abc"), true), nil)
		e.is(e.Send(5, []byte("abc"), false), nil)
		e.is(e.Trail(5, nil), nil)
		e.puts(`DATA 1 "abc"; DATA 3 "abc" end; DATA 5 "abc"; HEADERS 5 () end`)
		e.feed("Ready", settings(api.SWindow, 0))
		e.is(e.Send(7, nil, true), nil)
		e.puts(`SETTINGS ack; DATA 7 "" end`)
		e.feed("", window(1, 3))
		e.puts("")
		e.feed("", window(1, 1))
		e.puts(`DATA 1 "d" end`)
	})
}

// TestLeavingInOutput: P8.7: what a stream that leaves gives back stands right behind the frame by which it leaves.
func TestLeavingInOutput(t *testing.T) {
	greeted(t, api.Server, wide, func(e *end) {
		for _, n := range []string{"1", "3", "5", "7"} {
			number := int(n[0] - '0')
			e.feed("Heads "+n+" ("+get+`); Data `+n+` "`+run(number)+`" end`, e.heads(number, get, false), data(number, run(number), true))
			e.is(e.Answer(number, list(ok), false), nil)
		}
		e.Output()
		e.is(e.Send(1, []byte("ab"), true), nil)
		e.is(e.Send(3, nil, true), nil)
		e.is(e.Trail(5, list("a=b")), nil)
		e.is(e.Ate(3, 3), nil)
		e.is(e.Send(7, []byte(run(16385)), true), nil)
		e.puts(`WINDOW 0 3; DATA 1 "ab" end; WINDOW 0 1; DATA 3 "" end; HEADERS 5 (a=b) end; WINDOW 0 5; DATA 7 *16384; DATA 7 "4" end; WINDOW 0 7`)
		e.there()
	})
}

// TestOrderOfBlocks: P8.7: lists are encoded as they are put out, trailers not ahead of it.
func TestOrderOfBlocks(t *testing.T) {
	e := newEnd(t, api.Server, wide)
	e.Output()
	e.greet()
	for n := 1; n < 6; n += 2 {
		e.feed("Heads "+number(n)+" ("+get+")", block(n, false, 130, 134, 132))
	}
	e.is(e.Answer(3, list(ok), false), nil)
	e.is(e.Trail(3, list("x=3")), nil)
	e.is(e.Answer(5, list(ok), false), nil)
	e.is(e.Trail(5, list("x=5 x=3")), nil)
	e.is(e.Answer(1, list(ok+" x=5"), true), nil)
	want, _ := hpack.NewEncoder(api.MaxTable)
	lists := []string{ok, ok, ok + " x=5", "x=3", "x=5 x=3"}
	got := blocks(e.Output())
	for i, s := range lists {
		if b := want.Encode(list(s)); i >= len(got) || !bytes.Equal(got[i], b) {
			t.Fatalf("block %d of %v is not %v", i, got, b)
		}
	}
}

// TestBytesPutOut: P8.7, what is put out, byte by byte.
func TestBytesPutOut(t *testing.T) {
	e := newEnd(t, api.Client, wide)
	e.Output()
	e.open(1, get, false)
	e.is(e.Send(1, []byte("ab"), true), nil)
	e.is(e.Ping([]byte("12345678")), nil)
	e.open(3, get, true)
	e.is(e.Reset(3, 0x01020304), nil)
	e.is(e.Bye(5), nil)
	want := bytes.Join([][]byte{
		{0, 0, 3, 1, 4, 0, 0, 0, 1, 130, 134, 132}, {0, 0, 8, 6, 0, 0, 0, 0, 0}, []byte("12345678"), {0, 0, 3, 1, 5, 0, 0, 0, 3, 130, 134, 132},
		{0, 0, 4, 3, 0, 0, 0, 0, 3, 1, 2, 3, 4}, {0, 0, 8, 7, 0, 0, 0, 0, 0, 0, 0, 0, 0, 0, 0, 0, 5}, {0, 0, 2, 0, 1, 0, 0, 0, 1, 'a', 'b'},
	}, nil)
	if b := e.Output(); !bytes.Equal(b, want) {
		t.Errorf("it puts out %v; want %v", b, want)
	}
	if b := e.Output(); len(b) != 0 {
		t.Error("and again", b)
	}
	s, _ := conn.New(api.Server, wide)
	s.Output()
	s.Feed(append(frame.Preface(), fed(settings(), block(1, true, 130, 134, 132))...))
	if b, want := s.Output(), []byte{0, 0, 0, 4, 1, 0, 0, 0, 0}; !bytes.Equal(b, want) {
		t.Errorf("it puts out %v; want %v", b, want)
	}
}

// TestTold: P8.8.
func TestTold(t *testing.T) {
	greeted(t, api.Server, wide, func(e *end) {
		e.there()
		e.feed("Heads 3 ("+get+")", e.heads(3, get, false))
		e.feed("Heads 11 ("+get+`); Data 11 "abc"`, e.heads(11, get, false), data(11, "abc", false))
		e.feed("Heads 101 ("+get+`); Data 3 "a"; Data 11 "d"`, e.heads(101, get, false), data(3, "a", false), data(11, "d", false))
		e.there(3, 11, 101)
		for n, want := range map[int]int{3: 1, 11: 4, 101: 0, 1: 0, 2: 0, 0: 0, -3: 0, 103: 0, math.MaxInt: 0, math.MinInt: 0} {
			if e.Held(n) != want || e.Waiting(n) != 0 {
				e.Error("of stream", n, e.Held(n), e.Waiting(n))
			}
		}
		e.is(e.Reset(11, 0), nil)
		e.there(3, 101)
		e.is(e.Reset(3, 0), nil)
		e.there(101)
		e.is(e.Reset(101, 0), nil)
		e.there()
	})
}
