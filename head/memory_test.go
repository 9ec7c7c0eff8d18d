package head_test

import (
	"slices"
	"testing"

	"parley/api"
	"parley/head"
)

// roomy is l with room behind it in which marks stand, and a look that tells whether all of it is as it was.
func roomy(l []api.Header, mark api.Header) ([]api.Header, func() bool) {
	whole := slices.Concat(l, slices.Repeat([]api.Header{mark}, 40))
	was := slices.Clone(whole)
	return whole[:len(l)], func() bool { return slices.Equal(whole, was) }
}

// spoil writes over all of a list, its spare room too.
func spoil[T any](l []T, mark T) {
	l = l[:cap(l)]
	for i := range l {
		l[i] = mark
	}
}

var (
	wrong = api.Header{Name: "Wrong", Value: "\n"}
	right = api.Header{Name: "right", Value: "1"}
)

func rests() [][]api.Header {
	return [][]api.Header{nil, list("a", "1"), plains(), slices.Repeat(list("a", "1"), 300)}
}

// TestMemoryOfOpen: P6.6, P0.4: l is as it was and isn't kept, what lies behind it isn't read; each Rest is new memory.
func TestMemoryOfOpen(t *testing.T) {
	for _, rest := range rests() {
		want := head.Request{Method: "POST", Scheme: "http", Path: "/a", Rest: rest}
		l, whole := roomy(join(someRequest(), rest), wrong)
		first, err := head.Open(l)
		second, _ := head.Open(l)
		spoil(second.Rest, right)
		if err != nil || !whole() || !sameRequest(first, want) {
			t.Error("Open shares memory", len(rest))
		}
		spoil(l, right)
		if !sameRequest(first, want) {
			t.Error("Open keeps memory", len(rest))
		}
	}
	l, whole := roomy(someRequest(), list(":path", "/")[0])
	refused(t, l[:2])
	refused(t, l[:0])
	if !whole() {
		t.Error("Open that has an error changes l")
	}
}

// TestMemoryOfBuild: P6.6, P0.4: Rest is as it was and isn't kept, what lies behind it isn't read; each list is new memory.
func TestMemoryOfBuild(t *testing.T) {
	for _, rest := range rests() {
		want := join(list(":method", "M", ":scheme", "s", ":path", "/"), rest)
		r := head.Request{Method: "M", Scheme: "s", Path: "/"}
		kept, whole := roomy(rest, wrong)
		r.Rest = kept
		first, err := head.Build(r)
		second, _ := head.Build(r)
		spoil(second, right)
		if err != nil || !whole() || !slices.Equal(first, want) {
			t.Error("Build shares memory", len(rest))
		}
		spoil(kept, right)
		if !slices.Equal(first, want) {
			t.Error("Build keeps memory", len(rest))
		}
	}
	rest, whole := roomy([]api.Header{wrong}, right)
	unbuilt(t, head.Request{Method: "M", Scheme: "s", Path: "/", Rest: rest})
	if !whole() {
		t.Error("Build that has an error changes Rest")
	}
}

// TestMemoryOfAnswers: P6.6, P0.4: the same of OpenAnswer and BuildAnswer.
func TestMemoryOfAnswers(t *testing.T) {
	for _, rest := range rests() {
		l, whole := roomy(join(list(":status", "200"), rest), wrong)
		first, err := head.OpenAnswer(l)
		second, _ := head.OpenAnswer(l)
		spoil(second.Rest, right)
		if err != nil || !whole() || !sameAnswer(first, head.Response{Status: 200, Rest: rest}) {
			t.Error("OpenAnswer shares memory", len(rest))
		}
		spoil(l, right)
		if !sameAnswer(first, head.Response{Status: 200, Rest: rest}) {
			t.Error("OpenAnswer keeps memory", len(rest))
		}
		kept, whole := roomy(rest, wrong)
		built, err := head.BuildAnswer(head.Response{Status: 200, Rest: kept})
		again, _ := head.BuildAnswer(head.Response{Status: 200, Rest: kept})
		spoil(again, right)
		if err != nil || !whole() || !slices.Equal(built, join(list(":status", "200"), rest)) {
			t.Error("BuildAnswer shares memory", len(rest))
		}
		spoil(kept, right)
		if !slices.Equal(built, join(list(":status", "200"), rest)) {
			t.Error("BuildAnswer keeps memory", len(rest))
		}
	}
}

// TestMemoryOfAsking: P6.6, P0.4: Trailers, Get, All and Length leave l as it is, and don't look behind it; each All is new memory.
func TestMemoryOfAsking(t *testing.T) {
	start := list("a", "1", "b", "2", "a", "3")
	l, whole := roomy(start, wrong)
	trailers(t, l, nil)
	first, second := head.All(l, "a"), head.All(l, "a")
	spoil(second, "x")
	if !slices.Equal(first, []string{"1", "3"}) || len(head.All(l, wrong.Name)) > 0 {
		t.Error("All shares memory, or looks behind l", first)
	}
	if _, ok := head.Get(l, wrong.Name); ok {
		t.Error("Get looks behind l")
	}
	spoil(start, right)
	if !whole() || !slices.Equal(first, []string{"1", "3"}) {
		t.Error("asking changes l, or keeps it")
	}
	l, whole = roomy(list("content-length", "7"), list("content-length", "8")[0])
	lengths(t, l, 7, true, nil)
	lengths(t, l[:0], 0, false, nil)
	if !whole() {
		t.Error("Length changes l")
	}
}
