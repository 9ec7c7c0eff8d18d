package lex_test

import (
	"fmt"
	"math/rand"
	"strconv"
	"strings"
	"testing"

	"parley/api"
	"parley/lex"
)

func quotes(t *testing.T, s, want string) {
	t.Helper()
	if got := lex.Quote(s); got != want {
		t.Errorf("Quote(%.300q) is %.300s, not %.300s", s, got, want)
	}
}

// back: Scan of Quote(s) is one Text that says s.
func back(t *testing.T, s string) {
	t.Helper()
	q := lex.Quote(s)
	reads(t, q, text(0, len(q), s))
}

// TestQuote: P9.3: how each byte is written.
func TestQuote(t *testing.T) {
	quotes(t, "", `""`)
	quotes(t, "a b'c?/", `"a b'c?/"`)
	quotes(t, "a\"b\\c", `"a\"b\\c"`)
	quotes(t, "\n\r\t", `"\n\r\t"`)
	quotes(t, "\a\b\f\v\x00", `"\007\010\014\013\000"`)
	quotes(t, "\x1f ~\x7f", `"\037 ~\177"`)
	quotes(t, "é\xff", `"\303\251\377"`)
	quotes(t, "\x00"+"7", `"\0007"`)
	short := map[byte]string{'"': `\"`, '\\': `\\`, '\n': `\n`, '\r': `\r`, '\t': `\t`}
	all, allQuoted := "", ""
	for i := range 256 {
		s, ok := short[byte(i)]
		switch {
		case ok:
		case i >= 32 && i <= 126:
			s = string(rune(i))
		default:
			s = fmt.Sprintf(`\%03o`, i)
		}
		one := string([]byte{byte(i)})
		quotes(t, one, `"`+s+`"`)
		all, allQuoted = all+one, allQuoted+s
	}
	quotes(t, all, `"`+allQuoted+`"`)
	quotes(t, strings.Repeat("\xff", 3*api.MaxText), `"`+strings.Repeat(`\377`, 3*api.MaxText)+`"`)
}

// TestQuoteThereAndBack: P9.5: of all texts of one byte and of two, and of many longer ones.
func TestQuoteThereAndBack(t *testing.T) {
	back(t, "")
	for i := range 256 {
		back(t, string([]byte{byte(i)}))
		for j := range 256 {
			back(t, string([]byte{byte(i), byte(j)}))
		}
		if t.Failed() {
			return
		}
	}
	dice := rand.New(rand.NewSource(1))
	for range 2000 {
		b := make([]byte, dice.Intn(100))
		dice.Read(b)
		back(t, string(b))
	}
	back(t, strings.Repeat("a", api.MaxText-2))
	back(t, strings.Repeat("\x00", (api.MaxText-2)/4))
}

func one[T any](dice *rand.Rand, l ...T) T {
	return l[dice.Intn(len(l))]
}

// someToken is some token, its place and length apart.
func someToken(dice *rand.Rand) lex.Token {
	switch dice.Intn(4) {
	case 0:
		b := []byte{one(dice, []byte(small+great+"_")...)}
		for range dice.Intn(6) {
			b = append(b, wordly[dice.Intn(len(wordly))])
		}
		return word(0, string(b))
	case 1:
		return number(0, 0, dice.Uint64()>>dice.Intn(65))
	case 2:
		b := make([]byte, dice.Intn(6))
		dice.Read(b)
		return text(0, 0, string(b))
	}
	return mark(0, one(dice, strings.Split(signs, "")...))
}

// written is how P9.5 writes a token.
func written(x lex.Token) string {
	switch x.Kind {
	case lex.Number:
		return strconv.FormatUint(x.N, 10)
	case lex.Text:
		return lex.Quote(x.S)
	}
	return x.S
}

// TestTokensThereAndBack: P9.5: tokens written with a blank between are read as they were.
func TestTokensThereAndBack(t *testing.T) {
	dice := rand.New(rand.NewSource(2))
	for range 20000 {
		s := ""
		var want []lex.Token
		for i := range dice.Intn(8) {
			if i > 0 {
				s += one(dice, " ", "\t", "\r", "\n")
			}
			x := someToken(dice)
			w := written(x)
			x.Pos, x.Len = len(s), len(w)
			want = append(want, x)
			s += w
		}
		if reads(t, s, want...); t.Failed() {
			return
		}
	}
}

// someBetween is some blanks and comments.
func someBetween(dice *rand.Rand) string {
	s := ""
	for range dice.Intn(4) {
		s += one(dice, " ", "\t", "\r", "\n", "//\n", "// a \" */ \xff\n", "/**/", "/* \n // ' */", "/***/", "/*/*/")
	}
	return s
}

// TestBetween: P9.6: blanks and comments between tokens change nothing but places.
func TestBetween(t *testing.T) {
	dice := rand.New(rand.NewSource(3))
	for range 20000 {
		s := someBetween(dice)
		var want []lex.Token
		for range dice.Intn(6) {
			x := someToken(dice)
			w := written(x)
			x.Pos, x.Len = len(s), len(w)
			want = append(want, x)
			between := someBetween(dice)
			if between == "" {
				between = " "
			}
			s += w + between
		}
		if reads(t, s+one(dice, "", " ", "//", "// a", "/**/"), want...); t.Failed() {
			return
		}
	}
}

// isBetween tells whether s is blanks and comments alone, by taking them away from it.
func isBetween(s string) bool {
	for s != "" {
		switch {
		case strings.Contains(blanks, s[:1]):
			s = s[1:]
		case strings.HasPrefix(s, "//"):
			_, s, _ = strings.Cut(s, "\n")
		case strings.HasPrefix(s, "/*"):
			var ended bool
			if _, s, ended = strings.Cut(s[2:], "*/"); !ended {
				return false
			}
		default:
			return false
		}
	}
	return true
}

// checkPlaces: P9.6: the tokens rise, don't overlap, and between them there are blanks and comments alone; each, cut out, is read as itself.
func checkPlaces(t *testing.T, s string) {
	t.Helper()
	l, err := lex.Scan([]byte(s))
	if err != nil {
		return
	}
	end := 0
	for _, x := range l {
		if x.Pos < end || x.Len < 1 || x.Pos+x.Len > len(s) || !isBetween(s[end:x.Pos]) {
			t.Fatalf("Scan(%q): %v behind %d", s, x, end)
		}
		end = x.Pos + x.Len
		alone := x
		alone.Pos = 0
		reads(t, s[x.Pos:end], alone)
	}
	if !isBetween(s[end:]) {
		t.Fatalf("Scan(%q): %q left", s, s[end:])
	}
}
