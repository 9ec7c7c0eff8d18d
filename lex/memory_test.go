package lex_test

import (
	"bytes"
	"slices"
	"testing"

	"parley/api"
	"parley/lex"
)

// roomy is s with room behind it in which more stands, and a look that tells whether all of it is as it was.
func roomy(s, more string) ([]byte, func() bool) {
	whole := []byte(s + more)
	was := bytes.Clone(whole)
	return whole[:len(s)], func() bool { return bytes.Equal(whole, was) }
}

// spoil writes over all of a list, its spare room too.
func spoil[T any](l []T, mark T) {
	l = l[:cap(l)]
	for i := range l {
		l[i] = mark
	}
}

// TestMemoryOfScan: P9.4, P0.4: b is as it was and isn't kept, what lies behind it isn't read; each list is new memory, spare room too.
func TestMemoryOfScan(t *testing.T) {
	for _, s := range []string{"", "a", "12", "a b c d e", "'t' 0x1", "// a", "0", "x=", sample} {
		want, err := lex.Scan([]byte(s))
		if err != nil {
			t.Fatal("Scan", s, err)
		}
		for _, more := range []string{"a1", "x", "*/", "\"", "\n#", "'"} {
			b, whole := roomy(s, more)
			first, err := lex.Scan(b)
			second, _ := lex.Scan(b)
			spoil(second, mark(9, "x"))
			if err != nil || !whole() || !slices.Equal(first, want) {
				t.Errorf("Scan(%q) shares memory, or reads %q behind it", s, more)
			}
			_ = append(first, mark(8, "y"))
			third, _ := lex.Scan(b)
			spoil(b, 'z')
			if !slices.Equal(first, want) || !slices.Equal(third, want) {
				t.Errorf("Scan(%q) keeps memory", s)
			}
		}
	}
}

// TestMemoryOfFaults: P9.4: b is as it was beside an error, too, and what lies behind it doesn't mend it.
func TestMemoryOfFaults(t *testing.T) {
	for s, more := range map[string]string{`"a`: `"`, "'\\": "n'", "/*": "*/", "/": "/", "0x": "1", `"\x`: `1"`, "#": "a", "1a": " "} {
		b, whole := roomy(s, more)
		l, err := lex.Scan(b)
		if at, ok := err.(*api.At); !ok || *at != (api.At{Err: api.ErrToken}) || len(l) > 0 || !whole() {
			t.Errorf("Scan(%q) ahead of %q: %v, %v", s, more, l, err)
		}
		if l := told(t, b); len(l) > 0 || !whole() {
			t.Errorf("Tokens(%q) ahead of %q: %v", s, more, l)
		}
	}
	first, second := []byte("#"), []byte("#")
	_, err1 := lex.Scan(first)
	_, err2 := lex.Scan(second)
	err1.(*api.At).Pos = 7
	if err2.(*api.At).Pos != 0 {
		t.Error("two errors are one")
	}
}

// TestMemoryOfTokens: P9.4, P0.4: b is as it was and isn't kept, whatever becomes of it before it is gone over, and while it is.
func TestMemoryOfTokens(t *testing.T) {
	want := told(t, []byte(sample))
	b, whole := roomy(sample, "x")
	seq := lex.Tokens(b)
	if !slices.Equal(told(t, b), want) || !whole() {
		t.Error("Tokens shares memory, or reads behind it")
	}
	for i, x := range seq {
		if x != want[i] {
			t.Error("Tokens of changed bytes", i, x)
		}
		spoil(b, '#')
	}
	var got []lex.Token
	for _, x := range seq {
		got = append(got, x)
	}
	if !slices.Equal(got, want) {
		t.Error("Tokens keeps memory", got)
	}
	if long := make([]byte, api.MaxText, api.MaxText+1); len(told(t, append(long[:0], sample...))) != len(want) {
		t.Error("Tokens counts what lies behind")
	}
}

// TestMemoryOfLine: P9.4: b is as it was, and what lies behind it isn't counted.
func TestMemoryOfLine(t *testing.T) {
	b, whole := roomy("a\nb", "\n\n\n")
	for pos, want := range map[int]int{1: 1, 2: 2, 3: 2, 4: 2, 6: 2, 1000: 2} {
		if n := lex.Line(b, pos); n != want || !whole() {
			t.Error("Line", pos, n)
		}
	}
}
