package head_test

import (
	"slices"
	"strconv"
	"testing"

	"parley/api"
	"parley/head"
)

func buildsAnswer(t *testing.T, r head.Response, want []api.Header) {
	t.Helper()
	if l, err := head.BuildAnswer(r); err != nil || !slices.Equal(l, want) {
		t.Errorf("BuildAnswer(%v) is %.300v, %v", r, l, err)
	}
}

func unbuiltAnswer(t *testing.T, r head.Response) {
	t.Helper()
	if l, err := head.BuildAnswer(r); err != api.ErrHead || len(l) > 0 {
		t.Errorf("BuildAnswer(%v) is %.300v, %v", r, l, err)
	}
}

// TestAnswerExamples: the chapter's examples.
func TestAnswerExamples(t *testing.T) {
	opensAnswer(t, list(":status", "200"), head.Response{Status: 200})
	refusedAnswer(t, list(":status", "99"))
	refusedAnswer(t, list(":status", "0200"))
	refusedAnswer(t, list("a", "1"))
}

// TestStatuses: P6.4: 100 to 599, of three digits, and nothing else.
func TestStatuses(t *testing.T) {
	rest := list("b", "2", "a", "1")
	for n := -1200; n <= 12000; n++ {
		text := strconv.Itoa(n)
		l, r := list(":status", text), head.Response{Status: n}
		if n >= 100 && n <= 599 {
			opensAnswer(t, l, r)
			buildsAnswer(t, r, l)
			opensAnswer(t, join(l, rest), head.Response{Status: n, Rest: rest})
			refusedAnswer(t, list(":status", "0"+text))
			refusedAnswer(t, list(":status", "+"+text))
		} else {
			refusedAnswer(t, l)
			unbuiltAnswer(t, r)
		}
	}
	for _, n := range []int{-1 << 63, 1<<63 - 1, 1<<32 + 200, 1<<8 + 1000, 1<<16 + 200, 1<<31 - 1} {
		unbuiltAnswer(t, head.Response{Status: n})
	}
	for _, s := range []string{"", "2", "20", "020", "000", "2x0", "x00", "20x", "+20", "-20", "2.0", " 200", "200 ", "200\n", "20 ", " 20", "2_0", "0x1", "1e2", "٢", "200 OK", "2000", "::;", "2:0", "2/0"} {
		refusedAnswer(t, list(":status", s))
	}
}

// TestOpenAnswerWhatIsThere: P6.4: the status first, once, and no other with a colon.
func TestOpenAnswerWhatIsThere(t *testing.T) {
	one, rest := list(":status", "200"), list("b", "2", "a", "1")
	refusedAnswer(t, nil)
	refusedAnswer(t, rest)
	refusedAnswer(t, join(rest, one))
	refusedAnswer(t, join(one, one))
	refusedAnswer(t, join(one, rest, one))
	refusedAnswer(t, join(rest[:1], one, rest[1:]))
	refusedAnswer(t, list(":status", "99", ":status", "200"))
	for _, h := range list(":path", "/", ":method", "GET", ":scheme", "http", ":authority", "", ":", "x", ":Status", "200", ":statu", "200", ":status:", "200") {
		other := []api.Header{h}
		refusedAnswer(t, join(one, other, rest))
		refusedAnswer(t, join(other, one, rest))
		refusedAnswer(t, join(one, rest, other))
		refusedAnswer(t, join(other, rest))
		refusedAnswer(t, other)
	}
	refusedAnswer(t, someRequest())
	refused(t, one)
}

// TestBuildAnswer: P6.4: the status, then Rest; no colon in it.
func TestBuildAnswer(t *testing.T) {
	rest := []api.Header{{Name: "b", Value: "2", Never: true}, {Name: "a", Value: "1"}, {Name: "b", Value: "2"}}
	buildsAnswer(t, head.Response{Status: 599, Rest: rest}, join(list(":status", "599"), rest))
	opensAnswer(t, []api.Header{{Name: ":status", Value: "100", Never: true}, rest[0]}, head.Response{Status: 100, Rest: rest[:1]})
	unbuiltAnswer(t, head.Response{})
	unbuiltAnswer(t, head.Response{Rest: list(":status", "200")})
	for _, h := range plains() {
		buildsAnswer(t, head.Response{Status: 200, Rest: []api.Header{h}}, join(list(":status", "200"), []api.Header{h}))
	}
	for _, h := range notPlains() {
		for _, rest := range around(h) {
			unbuiltAnswer(t, head.Response{Status: 200, Rest: rest})
		}
	}
}
