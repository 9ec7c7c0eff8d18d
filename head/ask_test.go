package head_test

import (
	"slices"
	"strconv"
	"strings"
	"testing"

	"parley/api"
	"parley/head"
)

// TestGetAndAll: P6.5: the first of a name, and all of them in order.
func TestGetAndAll(t *testing.T) {
	l := append(list("a", "1", "b", "", "a", "3", ":path", "/", "A", "4", "a", "1", "", "5"), api.Header{Name: "n", Value: "6", Never: true})
	for name, want := range map[string][]string{
		"a": {"1", "3", "1"}, "b": {""}, "A": {"4"}, ":path": {"/"}, "": {"5"}, "n": {"6"},
		"c": nil, "aa": nil, "B": nil, "path": nil, " a": nil, "1": nil,
	} {
		if got := head.All(l, name); !slices.Equal(got, want) {
			t.Errorf("All(%q) is %q", name, got)
		}
		value, ok := head.Get(l, name)
		if ok != (len(want) > 0) || ok && value != want[0] || !ok && value != "" {
			t.Errorf("Get(%q) is %q, %v", name, value, ok)
		}
	}
	if value, ok := head.Get(nil, "a"); value != "" || ok || len(head.All(nil, "a")) > 0 {
		t.Error("Get and All of none")
	}
}

func lengths(t *testing.T, l []api.Header, n int, there bool, fault error) {
	t.Helper()
	if got, ok, err := head.Length(l); got != n || ok != there || err != fault {
		t.Errorf("Length(%.300v) is %v, %v, %v", l, got, ok, err)
	}
}

// contentLengths is a list with these lengths and others around them.
func contentLengths(values ...string) []api.Header {
	l := list("a", "1")
	for _, v := range values {
		l = append(l, list("content-length", v, "content-lengths", "9", "Content-Length", "8")...)
	}
	return l
}

// TestLength: P6.5: what is a length, and the chapter's examples.
func TestLength(t *testing.T) {
	lengths(t, nil, 0, false, nil)
	lengths(t, contentLengths(), 0, false, nil)
	lengths(t, list("content-lengths", "9", "Content-Length", "8", "length", "7"), 0, false, nil)
	for s, n := range map[string]int{
		"0": 0, "5": 5, "007": 7, "10": 10, "0000000000": 0, "0000000001": 1, "1234567890": 1234567890,
		"2147483647": 1<<31 - 1, "2147483648": 1 << 31, "4294967296": 1 << 32, "9999999999": 9999999999,
	} {
		lengths(t, contentLengths(s), n, true, nil)
		lengths(t, contentLengths(s, s), n, true, nil)
		lengths(t, contentLengths(s, s, s), n, true, nil)
		lengths(t, contentLengths(s, s, "0"+s), 0, false, api.ErrHead)
		lengths(t, contentLengths("0"+s, s), 0, false, api.ErrHead)
		lengths(t, contentLengths(s, "x"), 0, false, api.ErrHead)
		lengths(t, contentLengths("x", s), 0, false, api.ErrHead)
	}
	for n := range 11 {
		text := strings.Repeat("9", n)
		want, err := strconv.Atoi(text)
		if err == nil {
			lengths(t, contentLengths(text), want, true, nil)
		}
	}
	for _, s := range []string{"", "x", "-1", "+1", "1.0", "1e3", "0x10", "1_000", " 1", "1 ", "1\n", "٣", "1,1", "5, 5", "00000000000", "00000000001", "10000000000", "99999999999", strings.Repeat("0", 1000), "1/", "1:", "/1", ":1", "\x00"} {
		lengths(t, contentLengths(s), 0, false, api.ErrHead)
		lengths(t, contentLengths(s, s), 0, false, api.ErrHead)
	}
	lengths(t, contentLengths("5", "6"), 0, false, api.ErrHead)
	lengths(t, contentLengths("5", "05"), 0, false, api.ErrHead)
	lengths(t, contentLengths("5", "5", "6"), 0, false, api.ErrHead)
	lengths(t, contentLengths("5", "6", "5"), 0, false, api.ErrHead)
	lengths(t, []api.Header{{Name: "content-length", Value: "5", Never: true}, {Name: "content-length", Value: "5"}}, 5, true, nil)
}
