package lex_test

import (
	"slices"
	"strings"
	"sync"
	"testing"

	"parley/api"
	"parley/lex"
)

const sample = "message A { // one\n  string s = 0x1 [json_name = \"t\\n\"];\n}\n"

// TestTokensAgain: P9.2: the tokens are told again and again, from 0 on, by one going over and by several at once.
func TestTokensAgain(t *testing.T) {
	want, err := lex.Scan([]byte(sample))
	if err != nil || len(want) != 14 {
		t.Fatal("Scan", want, err)
	}
	seq := lex.Tokens([]byte(sample))
	for range 3 {
		n := 0
		for i, x := range seq {
			if i != n || x != want[i] {
				t.Error("Tokens", i, x)
			}
			n++
		}
		if n != len(want) {
			t.Error("Tokens", n)
		}
	}
	pairs := 0
	for i, x := range seq {
		for j, y := range seq {
			if x != want[i] || y != want[j] {
				t.Error("Tokens within Tokens", i, j)
			}
			pairs++
		}
	}
	if pairs != len(want)*len(want) {
		t.Error("Tokens within Tokens", pairs)
	}
	var group sync.WaitGroup
	counts := make([]int, 8)
	for i := range counts {
		group.Go(func() {
			for range seq {
				counts[i]++
			}
		})
	}
	group.Wait()
	if slices.ContainsFunc(counts, func(n int) bool { return n != len(want) }) {
		t.Error("Tokens side by side", counts)
	}
}

// TestTokensLeft: P9.2: it may be left early, at each token, and begins anew behind that.
func TestTokensLeft(t *testing.T) {
	for _, s := range []string{sample, "a b c #", "a"} {
		seq := lex.Tokens([]byte(s))
		whole := told(t, []byte(s))
		for stop := range whole {
			var got []lex.Token
			seq(func(i int, x lex.Token) bool {
				if i != len(got) || i > stop {
					t.Errorf("Tokens(%q): number %d behind leaving at %d", s, i, stop)
				}
				got = append(got, x)
				return i < stop
			})
			if !slices.Equal(got, whole[:stop+1]) {
				t.Errorf("Tokens(%q), left at %d: %v", s, stop, got)
			}
		}
	}
}

// TestTokensNone: P9.2: of none, of blanks, of a fault at the beginning, of too many bytes.
func TestTokensNone(t *testing.T) {
	for _, s := range []string{"", " ", "// a", "#", "18446744073709551616", strings.Repeat("a", api.MaxText+1), strings.Repeat("; ", api.MaxText)} {
		for range 2 {
			for i, x := range lex.Tokens([]byte(s)) {
				t.Errorf("Tokens(%.300q): %d, %v", s, i, x)
			}
		}
	}
	for range lex.Tokens(nil) {
		t.Error("Tokens of nil")
	}
}

// TestLine: P9.2: 1 and the bytes 10 ahead of the place, whatever the place is.
func TestLine(t *testing.T) {
	const least, most = -1 << 63, 1<<63 - 1
	for _, s := range []string{"", "a", "\n", "\n\n\n", "a\nb\n\nc", "\r\r\n\r", sample, "\"\n\" /*\n*/ //\n#\x00\n", strings.Repeat("a\n", 3*api.MaxText)} {
		b, n := []byte(s), 1
		step := max(1, len(b)/1000)
		for pos := range b {
			if pos%step == 0 && lex.Line(b, pos) != n {
				t.Errorf("Line(%.300q, %d) is %d, not %d", s, pos, lex.Line(b, pos), n)
			}
			if b[pos] == '\n' {
				n++
			}
		}
		for _, pos := range []int{len(b), len(b) + 1, len(b) + 1000, most} {
			if got := lex.Line(b, pos); got != n {
				t.Errorf("Line(%.300q, %d) is %d, not %d", s, pos, got, n)
			}
		}
		for _, pos := range []int{-1, -2, -1000, least} {
			if got := lex.Line(b, pos); got != 1 {
				t.Errorf("Line(%.300q, %d) is %d", s, pos, got)
			}
		}
	}
	if lex.Line(nil, 0) != 1 || lex.Line(nil, 5) != 1 || lex.Line(nil, -5) != 1 {
		t.Error("Line of nil")
	}
}
