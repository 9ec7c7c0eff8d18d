package lex_test

import (
	"bytes"
	"errors"
	"slices"
	"strconv"
	"strings"
	"testing"

	"parley/api"
	"parley/lex"
)

func word(pos int, s string) lex.Token {
	return lex.Token{Kind: lex.Word, Pos: pos, Len: len(s), S: s}
}

func mark(pos int, s string) lex.Token {
	return lex.Token{Kind: lex.Mark, Pos: pos, Len: len(s), S: s}
}

func number(pos, size int, n uint64) lex.Token {
	return lex.Token{Kind: lex.Number, Pos: pos, Len: size, N: n}
}

func text(pos, size int, s string) lex.Token {
	return lex.Token{Kind: lex.Text, Pos: pos, Len: size, S: s}
}

// told is what Tokens of b tells, whose numbers have to be those from 0 on.
func told(t *testing.T, b []byte) []lex.Token {
	t.Helper()
	var l []lex.Token
	for i, x := range lex.Tokens(b) {
		if i != len(l) {
			t.Errorf("Tokens(%.300q): number %d for %d", b, i, len(l))
		}
		l = append(l, x)
	}
	return l
}

// reads: the tokens of s, and nothing else, by Scan and by Tokens.
func reads(t *testing.T, s string, want ...lex.Token) {
	t.Helper()
	if l, err := lex.Scan([]byte(s)); err != nil || !slices.Equal(l, want) {
		t.Errorf("Scan(%.300q) is %.300v, %v, not %.300v", s, l, err, want)
	}
	if l := told(t, []byte(s)); !slices.Equal(l, want) {
		t.Errorf("Tokens(%.300q) are %.300v, not %.300v", s, l, want)
	}
}

// faulty: the tokens ahead of a fault at pos, by Tokens, and the fault, by Scan.
func faulty(t *testing.T, s string, pos int, fault error, ahead ...lex.Token) {
	t.Helper()
	l, err := lex.Scan([]byte(s))
	at, ok := err.(*api.At)
	if len(l) > 0 || !ok || *at != (api.At{Pos: pos, Err: fault}) || !errors.Is(err, fault) {
		t.Errorf("Scan(%.300q) is %.300v, %v, not %d: %v", s, l, err, pos, fault)
	}
	if l := told(t, []byte(s)); !slices.Equal(l, ahead) {
		t.Errorf("Tokens(%.300q) are %.300v, not %.300v", s, l, ahead)
	}
}

// none: no token begins at s, as it stands and behind others.
func none(t *testing.T, s string) {
	t.Helper()
	faulty(t, s, 0, api.ErrToken)
	faulty(t, "a 7;"+s, 4, api.ErrToken, word(0, "a"), number(2, 1, 7), mark(3, ";"))
	faulty(t, "/**/\n"+s+" a", 5, api.ErrToken)
}

// TestExamples: the chapter's examples.
func TestExamples(t *testing.T) {
	reads(t, "a=0x1F;// x", word(0, "a"), mark(1, "="), number(2, 4, 31), mark(6, ";"))
	reads(t, `"a\x41\101\n"`, text(0, 13, "aAA\n"))
	for _, s := range []string{"08", "12a", `"a`, "/* x", "#", `"\400"`} {
		faulty(t, s, 0, api.ErrToken)
	}
	faulty(t, "18446744073709551616", 0, api.ErrNumber)
	reads(t, "07 1.5", number(0, 2, 7), number(3, 1, 1), mark(4, "."), number(5, 1, 5))
}

const (
	small   = "abcdefghijklmnopqrstuvwxyz"
	great   = "ABCDEFGHIJKLMNOPQRSTUVWXYZ"
	decimal = "0123456789"
	wordly  = small + great + "_" + decimal
	signs   = "{}[]()<>=;,.-"
	blanks  = "\t\n\r "
)

// TestEachByte: P9.1: what each byte is alone, behind a word, and behind a number.
func TestEachByte(t *testing.T) {
	for i := range 256 {
		s := string([]byte{byte(i)})
		behind := []lex.Token{}
		switch {
		case strings.Contains(small+great+"_", s):
			reads(t, s, word(0, s))
			reads(t, "a"+s, word(0, "a"+s))
			faulty(t, "1"+s, 0, api.ErrToken)
			continue
		case strings.Contains(decimal, s):
			reads(t, s, number(0, 1, uint64(i-'0')))
			reads(t, "a"+s, word(0, "a"+s))
			reads(t, "1"+s, number(0, 2, uint64(10+i-'0')))
			continue
		case strings.Contains(signs, s):
			reads(t, s, mark(0, s))
			behind = append(behind, mark(1, s))
		case strings.Contains(blanks, s):
			reads(t, s)
		default:
			none(t, s)
			faulty(t, "a"+s, 1, api.ErrToken, word(0, "a"))
			faulty(t, "1"+s, 1, api.ErrToken, number(0, 1, 1))
			continue
		}
		reads(t, "a"+s, slices.Concat([]lex.Token{word(0, "a")}, behind)...)
		reads(t, "1"+s, slices.Concat([]lex.Token{number(0, 1, 1)}, behind)...)
	}
}

// TestWords: P9.1: words as long as they can be.
func TestWords(t *testing.T) {
	for _, s := range []string{"a", "_", "__", "a1", "_1", "x0x1", "message", "Z9_z", wordly, strings.Repeat("a", api.MaxText)} {
		reads(t, s, word(0, s))
	}
	reads(t, "ab cd", word(0, "ab"), word(3, "cd"))
	reads(t, `a"b"c`, word(0, "a"), text(1, 3, "b"), word(4, "c"))
	reads(t, "a.b.c", word(0, "a"), mark(1, "."), word(2, "b"), mark(3, "."), word(4, "c"))
	reads(t, "a//b\nc/*d*/e", word(0, "a"), word(5, "c"), word(11, "e"))
	none(t, "é")
	faulty(t, "aé", 1, api.ErrToken, word(0, "a"))
}

// TestMarks: P9.1: each mark is one byte, whatever stands beside it.
func TestMarks(t *testing.T) {
	var want []lex.Token
	for i := range len(signs) {
		want = append(want, mark(i, signs[i:i+1]))
	}
	reads(t, signs, want...)
	reads(t, "--1", mark(0, "-"), mark(1, "-"), number(2, 1, 1))
	reads(t, "..==", mark(0, "."), mark(1, "."), mark(2, "="), mark(3, "="))
}

// TestNumbers: P9.1: numbers of the three bases, up to what 64 bits tell.
func TestNumbers(t *testing.T) {
	for s, n := range map[string]uint64{
		"0": 0, "00": 0, "000": 0, "7": 7, "07": 7, "010": 8, "0777": 511, "10": 10, "90": 90, "9": 9, "1234567890": 1234567890,
		"0x0": 0, "0X0": 0, "0x1F": 31, "0X1f": 31, "0xabcdef": 0xabcdef, "0xABCDEF": 0xabcdef, "0x0009": 9, "0x00ff": 255,
		"0123456701234567": 0123456701234567, "0x0123456789": 0x123456789,
		"18446744073709551615": 1<<64 - 1, "18446744073709551614": 1<<64 - 2, "9223372036854775808": 1 << 63,
		"0xffffffffffffffff": 1<<64 - 1, "0XFFFFFFFFFFFFFFFE": 1<<64 - 2,
		"01777777777777777777777": 1<<64 - 1, "01000000000000000000000": 1 << 63,
	} {
		reads(t, s, number(0, len(s), n))
		reads(t, s+" "+s, number(0, len(s), n), number(len(s)+1, len(s), n))
		reads(t, "-"+s+".", mark(0, "-"), number(1, len(s), n), mark(1+len(s), "."))
		reads(t, s+`""`, number(0, len(s), n), text(len(s), 2, ""))
		reads(t, s+"//", number(0, len(s), n))
		faulty(t, s+"_", 0, api.ErrToken)
		faulty(t, s+"g", 0, api.ErrToken)
		faulty(t, s+"Z", 0, api.ErrToken)
		faulty(t, s+"/", len(s), api.ErrToken, number(0, len(s), n))
	}
	for i := range 64 {
		n := uint64(1) << i
		for _, n := range []uint64{n - 1, n, n + 1} {
			for prefix, base := range map[string]int{"": 10, "0": 8, "000": 8, "0x": 16, "0X000": 16} {
				s := prefix + strconv.FormatUint(n, base)
				reads(t, s, number(0, len(s), n))
			}
		}
	}
	zeros := strings.Repeat("0", api.MaxText-3)
	reads(t, zeros+"17", number(0, len(zeros)+2, 15))
	reads(t, "0x"+zeros+"a", number(0, len(zeros)+3, 10))
}

// TestNoNumbers: P9.1: what begins as a number, but is none.
func TestNoNumbers(t *testing.T) {
	for _, s := range []string{
		"08", "09", "078", "0778", "00a", "0a", "0b1", "0o7", "0_7", "12a", "1a", "1x", "1_", "1_000", "1e3", "0e0", "9L", "1u",
		"0x", "0X", "0xg", "0xG", "0x_", "0x1g", "0x1_", "0x 1", "0xx1", "0x0x1", "00x1", "1x1", "0x.", "0x-1", "018446744073709551615",
	} {
		none(t, s)
	}
}

// TestLargeNumbers: P9.1: numbers above 2^64 - 1, of which what stands behind is looked at first.
func TestLargeNumbers(t *testing.T) {
	for _, s := range []string{
		"18446744073709551616", "18446744073709551617", "18446744073709551620", "18446744073709551625", "28446744073709551615", "20000000000000000000", "36893488147419103232", "99999999999999999999",
		"100000000000000000000", "184467440737095516150", "340282366920938463463374607431768211456",
		"0x10000000000000000", "0x1ffffffffffffffff", "0Xfffffffffffffffff", "0x00010000000000000000",
		"02000000000000000000000", "03777777777777777777777", "07777777777777777777777", "010000000000000000000000",
		"1" + strings.Repeat("0", api.MaxText-100), "0x1" + strings.Repeat("0", api.MaxText-100), "01" + strings.Repeat("0", api.MaxText-100),
	} {
		faulty(t, s, 0, api.ErrNumber)
		faulty(t, "a "+s+" #", 2, api.ErrNumber, word(0, "a"))
		faulty(t, s+".", 0, api.ErrNumber)
		faulty(t, s+"/", 0, api.ErrNumber)
		none(t, s+"g")
		none(t, s+"_")
	}
	none(t, "0777777777777777777777777778")
	none(t, "99999999999999999999a")
}

// TestLong: P9.1, P9.2: MaxText bytes and one more, whatever they are.
func TestLong(t *testing.T) {
	for _, c := range []byte{' ', 'a', '#', '"', '/', '9'} {
		b := bytes.Repeat([]byte{c}, api.MaxText+1)
		if l, err := lex.Scan(b); len(l) > 0 || err != api.ErrLong {
			t.Errorf("Scan of too many %q: %v", c, err)
		}
		if l := told(t, b); len(l) > 0 {
			t.Errorf("Tokens of too many %q: %.300v", c, l)
		}
		if _, err := lex.Scan(b[:api.MaxText]); err == api.ErrLong {
			t.Errorf("Scan of just so many %q: %v", c, err)
		}
	}
	b := []byte("a" + strings.Repeat(" ", api.MaxText-2) + "b#")
	reads(t, string(b[:api.MaxText]), word(0, "a"), word(api.MaxText-1, "b"))
	if l := told(t, b); len(l) > 0 {
		t.Error("Tokens of one byte too many", l)
	}
	many := strings.Repeat(";", api.MaxText)
	if l, err := lex.Scan([]byte(many)); len(l) != api.MaxText || err != nil {
		t.Error("Scan of the most tokens", len(l), err)
	}
}
