package conn_test

import (
	"bytes"
	"runtime"
	"slices"
	"testing"

	"parley/api"
	"parley/conn"
	"parley/frame"
)

// roomy is l with room behind it in which marks stand, and a look that tells whether all of it is as it was.
func roomy[T comparable](l []T, mark T) ([]T, func() bool) {
	whole := slices.Concat(l, slices.Repeat([]T{mark}, 40))
	was := slices.Clone(whole)
	return whole[:len(l)], func() bool { return slices.Equal(whole, was) }
}

// spoil writes over all of a list, its spare room too.
func spoil[T any](l []T, mark T) {
	l = l[:cap(l)]
	for i := range l {
		l[i] = mark
	}
}

// spoilEvents writes over all that was told.
func spoilEvents(l []conn.Event) {
	for i := range l {
		spoil(l[i].Bytes, 99)
		spoil(l[i].List, api.Header{Name: "spoilt"})
	}
	spoil(l, conn.Event{Kind: 99})
}

// TestMemoryOfFeed: P8.9: what is fed is not changed and not kept, what lies behind it not read; what is told is new memory.
func TestMemoryOfFeed(t *testing.T) {
	all := append(frame.Preface(), fed(settings(), block(1, false, 130, 134, 132, 64, 1, 'a', 1, 'b'), data(1, "first", false), pingAck("12345678"),
		padded(1, "second", 3, false), cut(1, true, 190), more(1, true, 190), ping("abcdefgh"), block(3, true, 130, 134, 132, 190), goAway(1, 2))...)
	want := `Ready; Heads 1 (` + get + ` a=b); Data 1 "first"; Pong "12345678"; Data 1 "second"; Trailers 1 (a=b a=b); Heads 3 (` + get + ` a=b) end; Gone 1 2`
	for _, size := range []int{1, 2, 3, 10, 11, 50, len(all)} {
		e := newEnd(t, api.Server, wide)
		e.Output()
		var got []string
		for at := 0; at < len(all); at += size {
			b, whole := roomy(all[at:min(at+size, len(all))], 7)
			l := e.Feed(b)
			if !whole() {
				t.Error("Feed writes to what it is fed")
			}
			spoil(b, 98)
			if len(l) > 0 {
				got = append(got, events(t, l))
			}
			for i := range l { // one behind the other: what was spoilt must not show in those behind
				rest := events(t, l[i+1:])
				spoil(l[i].Bytes, 99)
				spoil(l[i].List, api.Header{Name: "spoilt"})
				if events(t, l[i+1:]) != rest {
					t.Error("two events share memory")
				}
			}
			spoilEvents(l)
		}
		if s := join(got); s != want {
			t.Errorf("by %d it tells %s; want %s", size, s, want)
		}
		e.puts(`SETTINGS ack; WINDOW 0 4; WINDOW 1 4; PING "abcdefgh" ack`)
	}
}

func join(l []string) string {
	s := ""
	for _, x := range l {
		if s != "" {
			s += "; "
		}
		s += x
	}
	return s
}

// TestMemoryOfLists: P8.9: lists that are handed in.
func TestMemoryOfLists(t *testing.T) {
	handed := func(text string, call func(l []api.Header)) {
		t.Helper()
		l, whole := roomy(list(text), api.Header{Name: "behind"})
		call(l)
		if !whole() {
			t.Error("a list that was handed in is changed", text)
		}
		spoil(l, api.Header{Name: "spoilt"})
	}
	c := newEnd(t, api.Client, wide)
	c.reader.read(t, c.Output())
	c.greet()
	handed(get+" !a=b c=d", func(l []api.Header) { c.Open(l, false) })
	handed("e=f", func(l []api.Header) { c.Trail(1, l) })
	handed("a=b", func(l []api.Header) { c.Open(l, false) })
	c.open(3, get+" c=d", true)
	c.puts("HEADERS 1 (" + get + " !a=b c=d); HEADERS 3 (" + get + " c=d) end; HEADERS 1 (e=f) end")
	s := newEnd(t, api.Server, wide)
	s.reader.read(t, s.Output())
	s.greet()
	s.feed("Heads 1 ("+get+")", s.heads(1, get, false))
	handed(ok+" a=b", func(l []api.Header) { s.is(s.Answer(1, l, false), nil) })
	handed("c=d !e=f", func(l []api.Header) { s.is(s.Trail(1, l), nil) })
	s.puts("HEADERS 1 (" + ok + " a=b); HEADERS 1 (c=d !e=f) end")
}

// TestMemoryOfBytes: P8.9: bytes that are handed in, bytes and numbers that are answered.
func TestMemoryOfBytes(t *testing.T) {
	e := newEnd(t, api.Client, wide)
	spoil(e.Output(), 99)
	e.greet()
	e.open(1, get, false)
	e.open(3, get, false)
	numbers := e.Streams()
	spoil(numbers, 77)
	e.there(1, 3)
	_ = append(e.Streams()[:1], 9)
	e.there(1, 3)
	e.puts("HEADERS 1 (" + get + "); HEADERS 3 (" + get + ")")

	handed := func(s string, call func(b []byte)) {
		t.Helper()
		b, whole := roomy([]byte(s), 7)
		call(b)
		if !whole() {
			t.Error("bytes that were handed in are changed", s)
		}
		spoil(b, 98)
	}
	handed("abc", func(b []byte) { e.is(e.Send(1, b, false), nil) })
	handed("", func(b []byte) { e.is(e.Send(1, b, false), nil) })
	handed("defg", func(b []byte) { e.is(e.Send(1, b, false), nil) })
	handed("xyz", func(b []byte) { e.is(e.Send(3, b, false), nil) })
	handed("12345678", func(b []byte) { e.is(e.Ping(b), nil) })
	first := e.Output()
	was := bytes.Clone(first)
	handed("hij", func(b []byte) { e.is(e.Send(1, b, true), nil) })
	second := e.Output()
	_ = append(first, 1, 2, 3)
	spoil(second, 99)
	if !bytes.Equal(first, was) {
		t.Error("two outputs share memory")
	}
	spoil(first, 99)
	if s := e.reader.read(t, was); s != `PING "12345678"; DATA 1 "abcdefg"; DATA 3 "xyz"` {
		t.Error(s)
	}
	e.is(e.Send(3, []byte("!"), true), nil)
	e.puts(`DATA 3 "!" end`)
}

// TestKeptMemory: P8.12: of what was fed no more is kept than a frame that isn't all there, and of what was put out nothing.
func TestKeptMemory(t *testing.T) {
	heap := func() int {
		runtime.GC()
		runtime.GC()
		var m runtime.MemStats
		runtime.ReadMemStats(&m)
		return int(m.HeapAlloc)
	}
	e := newEnd(t, api.Server, wide)
	e.Output()
	e.greet()
	e.feed("Heads 1 ("+get+")", e.heads(1, get, false))
	e.is(e.Answer(1, list(ok), false), nil)
	before := heap()
	kept := func(what string) {
		t.Helper()
		if n := heap() - before; n > 2<<20 {
			t.Error(what, "keeps bytes", n)
		}
	}
	one := raw(77, 0, 0, make([]byte, api.MaxFrame)...)
	e.Feed(append(bytes.Repeat(one, 2000), one[:20]...))
	kept("a frame that is not whole")
	e.Feed(append(one[20:], bytes.Repeat(one, 2000)...))
	kept("what was read")
	e.feed("", window(0, 1<<30), window(1, 1<<30))
	for range 2 {
		e.is(e.Send(1, make([]byte, 16<<20), false), nil)
		if n := len(e.Output()); n < 16<<20 {
			t.Error("put out", n)
		}
		kept("what was put out")
	}
	e.feed("Heads 3 ("+get+") end", e.heads(3, get, true))
	e.there(1, 3)
}
