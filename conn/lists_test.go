package conn_test

import (
	"bytes"
	"strings"
	"testing"

	"parley/api"
	"parley/conn"
)

// asked is a client with stream 1 there, whose own side is open.
func asked(t *testing.T, script func(e *end)) {
	t.Helper()
	greeted(t, api.Client, wide, func(e *end) {
		e.open(1, get, false)
		e.puts("HEADERS 1 (" + get + ")")
		script(e)
	})
}

// TestExamples: the chapter's examples of what a server is fed.
func TestExamples(t *testing.T) {
	one := conn.Config{Window: 65535, Streams: 1}
	post := []byte{131, 134, 132}
	told := "(:method=POST :scheme=http :path=/)"
	greeted(t, api.Server, one, func(e *end) {
		e.feed("Heads 1 "+told+" end", block(1, true, post...))
		e.puts("")
		e.feed("", block(3, true, post...))
		e.puts("RST 3 7")
		e.there(1)
	})
	each(t, api.Server, one, func(e *end) {
		e.bytes("Fail 1", []byte("GET"))
		e.puts("GOAWAY 0 1")
	})
	greeted(t, api.Server, one, func(e *end) { e.feed("Fail 9", block(1, false, 128)) })
	greeted(t, api.Server, one, func(e *end) { e.feed("Fail 1", data(1, "", false)) })
	greeted(t, api.Server, one, func(e *end) { e.feed("Fail 1", rst(1, 0)) })
	greeted(t, api.Server, one, func(e *end) { e.feed("Fail 3", window(0, 1<<31-1)) })
}

// TestPiecesOfList: P8.1, a list in pieces, with padding and priority about them; what it says counts when all is there.
func TestPiecesOfList(t *testing.T) {
	greeted(t, api.Server, wide, func(e *end) {
		first := cut(1, true, 130)
		first.Padded, first.Pad, first.Priority, first.Dep, first.Weight = true, 3, true, 7, 9
		e.feed("", first, more(1, false), more(1, false, 134))
		e.there()
		e.feed("Heads 1 ("+get+") end", more(1, true, 132))
		e.there(1)
		e.feed("", cut(3, false))
		e.feed("Heads 3 ("+get+")", more(3, true, 130, 134, 132)) // End stands in HEADERS
		e.feed("", cut(3, true))
		e.feed("Trailers 3 ()", more(3, true))
		e.puts("")
	})
	asked(t, func(e *end) {
		e.feed("Heads 1 ("+ok+")", cut(1, false), more(1, true, 136))
		e.feed("Trailers 1 (a=b)", cut(1, true, 0, 1), more(1, true, 'a', 1, 'b'))
	})
}

// TestCalm: P8.1, pieces of MaxList bytes and not one more, as soon as they are there.
func TestCalm(t *testing.T) {
	sizes := bytes.Repeat([]byte{32}, api.MaxList) // each resizes the decoder's table to 0
	full := append(bytes.Clone(sizes[:api.MaxList-3]), 130, 134, 132)
	greeted(t, api.Server, wide, func(e *end) {
		e.feed("Heads 1 ("+get+")", block(1, false, full...))
		e.feed("Heads 3 ("+get+")", cut(3, false, full[:9]...), more(3, false, full[9:]...), more(3, false), more(3, true))
		e.feed("", cut(5, false, full...))
		e.feed("Fail 11", more(5, false, 132))
		e.puts("GOAWAY 3 11")
	})
	greeted(t, api.Server, wide, func(e *end) { // neither padding nor priority counts
		head := cut(1, false, full[:16000]...)
		head.Padded, head.Pad, head.Priority, head.Weight = true, 255, true, 1
		e.feed("Heads 1 ("+get+")", head, more(1, true, full[16000:]...))
	})
	greeted(t, api.Server, wide, func(e *end) { // ahead of what the block says
		e.feed("Fail 11", cut(1, false, append([]byte{128}, sizes[1:]...)...), more(1, true, 0))
	})
	asked(t, func(e *end) {
		e.feed("", cut(1, false, sizes[:8192]...), more(1, false, sizes[:8192]...))
		e.feed("Fail 11", more(1, true, 0))
	})
}

// TestCompression: P8.1, the decoder's errors, ahead of all that the stream asks for; what it decoded counts for all lists behind.
func TestCompression(t *testing.T) {
	for _, b := range [][]byte{{128}, {130, 32}, {63, 226, 31}, {255}, {191}, {64, 1}, append([]byte{64, 1, 'a', 127, 225, 127}, make([]byte, 16384)...)} {
		if len(b) > api.MaxFrame {
			b = b[:api.MaxFrame]
		}
		for _, stream := range []int{1, 3, 5, 7} { // ended, there, left, new
			greeted(t, api.Server, conn.Config{Window: 9, Streams: 2}, func(e *end) {
				e.feed("Heads 1 ("+get+") end", e.heads(1, get, true))
				e.feed("", e.heads(3, ":a=b", false))
				e.feed("Heads 5 ("+get+")", e.heads(5, get, false))
				e.puts("RST 3 1")
				e.feed("Fail 9", block(stream, true, b...))
				e.puts("GOAWAY 5 9") // a list that can't be decoded opens nothing
			})
		}
		asked(t, func(e *end) { e.feed("Fail 9", block(1, true, b...)) })
	}
	big := "a=" + run(3000)
	greeted(t, api.Server, wide, func(e *end) {
		e.feed("", e.heads(1, "a=1 b=2", true)) // both go to the table, though the list is no request
		e.feed("Heads 3 ("+get+" a=1 b=2)", block(3, false, 130, 134, 132, 191, 190))
		e.feed("Trailers 3 (b=2)", block(3, true, 190))
		e.feed("Reset 3 5", block(3, true, 64, 1, 'c', 1, '3'))
		e.feed("", block(3, true, 64, 1, 'd', 1, '4'), block(1, true, 64, 1, 'e', 1, '5'))
		e.feed("Heads 5 ("+get+" e=5 d=4 c=3 b=2 a=1)", block(5, false, 130, 134, 132, 190, 191, 192, 193, 194))
		e.puts("RST 1 1; RST 3 5")
	})
	greeted(t, api.Server, wide, func(e *end) { // a list of more than MaxList bytes
		l := list(get + " " + big)
		e.feed("Heads 1 ("+text(l)+")", e.heads(1, get+" "+big, false))
		e.feed("Fail 9", block(1, true, 190, 190, 190, 190, 190, 190))
	})
	greeted(t, api.Server, wide, func(e *end) {
		l := list(get + " " + big)
		e.feed("Heads 1 ("+text(l)+")", e.heads(1, get+" "+big, false))
		e.feed("Trailers 1 ("+strings.Repeat(" "+text(list(big)), 5)[1:]+")", block(1, true, 190, 190, 190, 190, 190))
	})
	greeted(t, api.Server, wide, func(e *end) { // Never stays
		e.feed("Heads 1 ("+get+" !a=b)", e.heads(1, get+" !a=b", false))
	})
}

// TestOpened: P8.1, which streams are there, and which are refused, and why.
func TestOpened(t *testing.T) {
	for _, stream := range []int{2, 4, 1 << 30} { // ahead of the pieces
		greeted(t, api.Server, wide, func(e *end) { e.feed("Fail 1", block(stream, true, 130, 134, 132)) })
		greeted(t, api.Server, wide, func(e *end) { e.feed("Fail 1", cut(stream, true)) })
		greeted(t, api.Server, wide, func(e *end) { e.feed("Fail 1", block(stream, true, 128)) })
		greeted(t, api.Server, wide, func(e *end) {
			e.feed("Heads 9 ("+get+")", e.heads(9, get, false))
			e.feed("Fail 1", cut(stream, true))
			e.puts("GOAWAY 9 1")
		})
	}
	greeted(t, api.Server, wide, func(e *end) {
		e.feed("Heads 5 ("+get+")", e.heads(5, get, false))
		e.feed("", e.heads(3, get, false), e.heads(1, get, true)) // known, and not there
		e.feed("Heads 7 ("+get+") end", e.heads(7, get, true))
		e.feed("Heads 2147483647 ("+get+")", e.heads(api.MaxStream, get, false))
		e.there(5, 7, api.MaxStream)
		e.puts("")
		e.feed("Fail 1", settingsAck(), settingsAck())
		e.puts("GOAWAY 2147483647 1")
	})
	for _, most := range []int{0, 1, 2, 5, 100} {
		greeted(t, api.Server, conn.Config{Window: 9, Streams: most}, func(e *end) {
			for i := range most {
				e.feed("Heads "+number(2*i+1)+" ("+get+")", e.heads(2*i+1, get, false))
			}
			next := 2*most + 1
			e.feed("", e.heads(next, get, false), e.heads(next+2, "a=b", false)) // refused, whatever the list is
			e.puts("RST " + number(next) + " 7; RST " + number(next+2) + " 7")
			e.feed("", e.heads(next, get, false)) // it is known now
			e.puts("")
			greatest := next + 2 // that it was refused changes nothing of that
			if most > 0 {
				e.feed("Reset 1 8", rst(1, 8)) // and there is room again
				greatest += 2
				e.feed("Heads "+number(greatest)+" ("+get+")", e.heads(greatest, get, false))
			}
			if n := len(e.Streams()); n != most {
				e.Error("there are", n)
			}
			e.feed("Fail 1", rst(2, 0))
			e.puts("GOAWAY " + number(greatest) + " 1")
		})
	}
	for _, l := range []string{"", "a=b", ":method=GET :scheme=http", get + " :a=b", get + " :path=/", ":method=GET :scheme=http :path=a", get + " A=b", get + " te=gzip", ok, "a=b " + get} {
		greeted(t, api.Server, wide, func(e *end) {
			e.feed("", e.heads(1, l, true), data(1, "abc", true))
			e.puts("RST 1 1; WINDOW 0 3")
			e.there()
			e.feed("Heads 3 ("+get+") end", e.heads(3, get, true))
		})
	}
}

// TestOfServer: P8.1, what a server does at lists of a stream that is there.
func TestOfServer(t *testing.T) {
	asking(t, wide, func(e *end) { // open
		e.feed("Trailers 1 (a=b !c=d)", e.heads(1, "a=b !c=d", true))
		e.there(1)
		e.feed("Reset 1 5", e.heads(1, "a=b", true)) // ended
		e.puts("RST 1 5")
	})
	for _, x := range []struct {
		l   string
		end bool
	}{{"a=b", false}, {"", false}, {":a=b", true}, {get, true}, {get, false}, {ok, true}, {"A=b", true}, {"te=gzip", true}} {
		asking(t, wide, func(e *end) {
			e.feed(`Data 1 "ab"`, data(1, "ab", false))
			e.feed("Reset 1 1", e.heads(1, x.l, x.end))
			e.puts("RST 1 1; WINDOW 0 2")
			e.there()
		})
		asking(t, wide, func(e *end) { // that it has ended goes ahead
			e.feed(`Data 1 "ab" end`, data(1, "ab", true))
			e.feed("Reset 1 5", e.heads(1, x.l, x.end))
			e.puts("RST 1 5; WINDOW 0 2")
			e.feed("", e.heads(1, x.l, x.end))
			e.puts("")
		})
	}
	asking(t, wide, func(e *end) { // by trailers it leaves, if the own side has ended
		e.is(e.Answer(1, list(ok), true), nil)
		e.there(1)
		e.feed(`Data 1 "ab"`, data(1, "ab", false))
		e.feed("Trailers 1 ()", e.heads(1, "", true))
		e.puts("HEADERS 1 (" + ok + ") end; WINDOW 0 2")
		e.there()
	})
	asking(t, wide, func(e *end) { // and by data
		e.is(e.Answer(1, list(ok), true), nil)
		e.feed(`Data 1 "ab" end`, data(1, "ab", true))
		e.puts("HEADERS 1 (" + ok + ") end; WINDOW 0 2")
		e.there()
	})
	asking(t, wide, func(e *end) { // but not as long as its end was not put out
		e.is(e.Answer(1, list(ok), false), nil)
		e.is(e.Send(1, nil, true), nil)
		e.feed(`Data 1 "ab" end`, data(1, "ab", true))
		e.there(1)
		e.puts("HEADERS 1 (" + ok + `); DATA 1 "" end; WINDOW 0 2`)
		e.there()
	})
}

// TestOfClient: P8.1, what a client does at lists.
func TestOfClient(t *testing.T) {
	for _, stream := range []int{2, 3, 5, api.MaxStream} { // ahead of the pieces
		asked(t, func(e *end) { e.feed("Fail 1", cut(stream, true)) })
		asked(t, func(e *end) { e.feed("Fail 1", block(stream, true, 128)) })
		asked(t, func(e *end) { e.feed("Fail 1", block(stream, true, 136)) })
	}
	for _, status := range []string{"200", "299", "301", "404", "599"} {
		asked(t, func(e *end) {
			e.feed("Heads 1 (:status="+status+")", e.heads(1, ":status="+status, false))
			e.feed(`Data 1 "a"`, data(1, "a", false))
			e.feed("Trailers 1 (a=b)", e.heads(1, "a=b", true))
			e.feed("Reset 1 5", e.heads(1, "a=b", true))
			e.puts("RST 1 5; WINDOW 0 1")
		})
		asked(t, func(e *end) {
			e.feed("Heads 1 (:status="+status+" a=b) end", e.heads(1, ":status="+status+" a=b", true))
			e.there(1)
			e.feed("Reset 1 5", e.heads(1, ":status="+status, true))
			e.puts("RST 1 5")
		})
	}
	for _, status := range []string{"100", "103", "199"} {
		asked(t, func(e *end) {
			e.feed("", e.heads(1, ":status="+status+" a=b", false), e.heads(1, ":status=100", false))
			e.there(1)
			e.feed("Heads 1 ("+ok+" a=b)", e.heads(1, ok+" a=b", false))
			e.puts("")
		})
		asked(t, func(e *end) { // it is fresh still
			e.feed("", e.heads(1, ":status="+status, false))
			e.feed("Reset 1 1", data(1, "a", false))
			e.puts("RST 1 1; WINDOW 0 1")
		})
		asked(t, func(e *end) {
			e.feed("Reset 1 1", e.heads(1, ":status="+status, true))
			e.puts("RST 1 1")
			e.there()
		})
		asked(t, func(e *end) { // behind an answer it is no trailer
			e.feed("Heads 1 ("+ok+")", e.heads(1, ok, false))
			e.feed("Reset 1 1", e.heads(1, ":status="+status, false))
		})
	}
	for _, l := range []string{"", "a=b", ":status=99", ":status=600", ":status=0200", get, ok + " " + ok, ok + " A=b", "a=b " + ok} {
		for _, last := range []bool{false, true} {
			asked(t, func(e *end) {
				e.feed("Reset 1 1", e.heads(1, l, last))
				e.puts("RST 1 1")
				e.feed("", e.heads(1, ok, last))
				e.puts("")
			})
		}
	}
	asked(t, func(e *end) {
		e.feed("Heads 1 ("+ok+")", e.heads(1, ok, false))
		e.feed("Reset 1 1", e.heads(1, "a=b", false)) // no End
		e.puts("RST 1 1")
	})
	asked(t, func(e *end) {
		e.feed("Heads 1 ("+ok+")", e.heads(1, ok, false))
		e.feed("Reset 1 1", e.heads(1, ok, true)) // no trailers
		e.puts("RST 1 1")
	})
}

// TestClientLeaves: P8.1, a client's stream leaves when both sides have ended.
func TestClientLeaves(t *testing.T) {
	greeted(t, api.Client, wide, func(e *end) {
		for n := 1; n < 8; n += 2 {
			e.open(n, get, true)
		}
		e.Output()
		e.feed("Heads 1 ("+ok+") end", e.heads(1, ok, true))
		e.there(3, 5, 7)
		e.feed("Heads 5 ("+ok+"); Data 5 \"ab\"; Data 5 \"\" end", e.heads(5, ok, false), data(5, "ab", false), data(5, "", true))
		e.there(3, 7)
		e.feed("Heads 7 ("+ok+"); Data 7 \"abc\"; Trailers 7 (a=b)", e.heads(7, ok, false), data(7, "abc", false), e.heads(7, "a=b", true))
		e.there(3)
		e.puts("WINDOW 0 2; WINDOW 0 3")
		e.feed("", e.heads(7, "a=b", true), e.heads(1, ok, true))
	})
	asked(t, func(e *end) {
		e.feed("Heads 1 ("+ok+") end", e.heads(1, ok, true))
		e.there(1)
		e.is(e.Send(1, []byte("ab"), true), nil) // its own side may go on
		e.there(1)
		e.puts(`DATA 1 "ab" end`)
		e.there()
	})
}
