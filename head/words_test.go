package head_test

import (
	"strings"
	"testing"

	"parley/api"
	"parley/head"
)

// mayName is the bytes that a name may have, written out.
const mayName = "abcdefghijklmnopqrstuvwxyz0123456789!#$%&'*+-.^_`|~"

// list is the headers of names and values, one behind the other.
func list(words ...string) []api.Header {
	var l []api.Header
	for i := 0; i < len(words); i += 2 {
		l = append(l, api.Header{Name: words[i], Value: words[i+1]})
	}
	return l
}

// TestNameBytes: P6.1: each byte alone, first, last and within a name.
func TestNameBytes(t *testing.T) {
	for c := range 256 {
		b := string([]byte{byte(c)})
		want := strings.Contains(mayName, b)
		for _, s := range []string{b, b + "a", "a" + b, "a" + b + "0"} {
			if head.Name(s) != want {
				t.Errorf("Name(%q) is %v", s, !want)
			}
		}
	}
}

// TestNames: P6.1: names, and what is none.
func TestNames(t *testing.T) {
	for _, s := range []string{"a", "0", "x-bin", "content-length", "-", "grpc-timeout", mayName, strings.Repeat("n", 100000)} {
		if !head.Name(s) {
			t.Errorf("Name(%.40q) is false", s)
		}
	}
	for _, s := range []string{"", "A", "contenT", ":path", ":", "a:", "a b", " a", "a ", "a\t", "a\x00", "a\n", "é", "\xff", "a/b", "(a)", "a@b", "a=b", "a,b", "a\"", "a\\", "[a]", "{a}", strings.Repeat("n", 100000) + "N"} {
		if head.Name(s) {
			t.Errorf("Name(%.40q) is true", s)
		}
	}
}

// TestValueBytes: P6.1: each byte alone, first, last and within a value.
func TestValueBytes(t *testing.T) {
	for c := range 256 {
		b := string([]byte{byte(c)})
		never := c == 0 || c == 10 || c == 13
		blank := c == 32 || c == 9
		for s, want := range map[string]bool{
			b: !never && !blank, b + "a": !never && !blank, "a" + b: !never && !blank,
			"a" + b + "a": !never, "aaaaaaaa" + b + "aaaaaaaa": !never, b + b: !never && !blank,
			"é" + b + "\xff": !never,
		} {
			if head.Value(s) != want {
				t.Errorf("Value(%q) is %v", s, !want)
			}
		}
	}
}

// TestValues: P6.1: values, and what is none.
func TestValues(t *testing.T) {
	for _, s := range []string{"", "a", "a b", "a\tb", "a \t b", "\x01", "\x0b", "\x7f", "é", "\xff\xfe", "\u00a0", "\u2028", ":", strings.Repeat("v", 100000)} {
		if !head.Value(s) {
			t.Errorf("Value(%.40q) is false", s)
		}
	}
	for _, s := range []string{" ", "\t", " \t", " a", "\ta", "a ", "a\t", "a\r\nb", "a\n", "\ra", "\x00", strings.Repeat("v", 100000) + " "} {
		if head.Value(s) {
			t.Errorf("Value(%.40q) is true", s)
		}
	}
}
