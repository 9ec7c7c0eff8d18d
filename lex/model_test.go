package lex_test

import (
	"math/big"
	"math/rand"
	"regexp"
	"slices"
	"strconv"
	"strings"
	"testing"

	"parley/api"
	"parley/lex"
)

// A second way of saying what tokens are: by expressions, and by numbers without bounds.

const (
	escapeForm = `\\[abfnrtv\\'"?]|\\[xX][0-9a-fA-F]{1,2}|\\[0-7]{1,3}`
	doubleForm = `"(?:[^\x00\n\\"]|` + escapeForm + `)*"`
	singleForm = `'(?:[^\x00\n\\']|` + escapeForm + `)*'`
)

var (
	betweenForm = regexp.MustCompile(`\A(?:[\t\n\r ]|//[^\n]*|/\*(?s:.*?)\*/)*`)
	wordForm    = regexp.MustCompile(`\A[a-zA-Z_][a-zA-Z0-9_]*`)
	numberForm  = regexp.MustCompile(`\A(?:0[xX][0-9a-fA-F]+|0[0-7]*|[1-9][0-9]*)`)
	behindForm  = regexp.MustCompile(`\A[a-zA-Z0-9_]`)
	textForm    = regexp.MustCompile(`\A(?:` + doubleForm + `|` + singleForm + `)`)
	pieceForm   = regexp.MustCompile(escapeForm + `|(?s:.)`)
	markForm    = regexp.MustCompile(`\A[][{}()<>=;,.-]`)
)

// modelSaid is what the inside of a text says; false, if a piece of it says more than 255.
func modelSaid(inside string) (string, bool) {
	out := ""
	for _, piece := range pieceForm.FindAllStringIndex(inside, -1) {
		p := inside[piece[0]:piece[1]]
		if len(p) > 1 && (p[1] == 'x' || p[1] == 'X') {
			p = `\x` + strings.Repeat("0", 4-len(p)) + p[2:]
		} else if len(p) > 1 && p[1] >= '0' && p[1] <= '7' {
			p = `\` + strings.Repeat("0", 4-len(p)) + p[1:]
		} else if p == `\?` || p == `\'` || p == `\"` {
			out += p[1:]
			continue
		}
		if p[0] != '\\' {
			out += p
			continue
		}
		said, err := strconv.Unquote(`"` + p + `"`)
		if err != nil {
			return "", false
		}
		out += said
	}
	return out, true
}

// modelToken is the token that s begins with.
func modelToken(s string) (lex.Token, error) {
	if w := wordForm.FindString(s); w != "" {
		return lex.Token{Kind: lex.Word, Len: len(w), S: w}, nil
	}
	if m := markForm.FindString(s); m != "" {
		return lex.Token{Kind: lex.Mark, Len: 1, S: m}, nil
	}
	if q := textForm.FindString(s); q != "" {
		if said, ok := modelSaid(q[1 : len(q)-1]); ok {
			return lex.Token{Kind: lex.Text, Len: len(q), S: said}, nil
		}
	}
	if d := numberForm.FindString(s); d != "" && !behindForm.MatchString(s[len(d):]) {
		n, _ := new(big.Int).SetString(d, 0)
		if !n.IsUint64() {
			return lex.Token{}, api.ErrNumber
		}
		return lex.Token{Kind: lex.Number, Len: len(d), N: n.Uint64()}, nil
	}
	return lex.Token{}, api.ErrToken
}

// modelScan is the tokens of s up to its end, or to a fault, which it answers with its place.
func modelScan(s string) ([]lex.Token, int, error) {
	var l []lex.Token
	at := 0
	for {
		at += len(betweenForm.FindString(s[at:]))
		if at == len(s) {
			return l, 0, nil
		}
		x, err := modelToken(s[at:])
		if err != nil {
			return l, at, err
		}
		x.Pos = at
		l = append(l, x)
		at += x.Len
	}
}

// against holds Scan and Tokens of s against the model, and tells whether it has no fault.
func against(t *testing.T, s string) bool {
	t.Helper()
	want, at, err := modelScan(s)
	if err != nil {
		faulty(t, s, at, err, want...)
		return false
	}
	reads(t, s, want...)
	return true
}

// TestShortTextsAgainstModel: P9.1, P9.2: all texts of up to four bytes at which something changes.
func TestShortTextsAgainstModel(t *testing.T) {
	alphabet := []byte("a_x0178=\"'\\/* \n\x00")
	taken := 0
	list := make([]byte, 0, 4)
	var grow func()
	grow = func() {
		if against(t, string(list)) {
			taken++
			checkPlaces(t, string(list))
		}
		if len(list) == cap(list) {
			return
		}
		for _, c := range alphabet {
			if t.Failed() {
				return
			}
			list = append(list, c)
			grow()
			list = list[:len(list)-1]
		}
	}
	grow()
	if taken < 5000 {
		t.Error("too few had no fault:", taken)
	}
}

// someBytes is some bytes at which something changes.
func someBytes(dice *rand.Rand, most int, alphabet string) string {
	b := make([]byte, dice.Intn(most+1))
	for i := range b {
		b[i] = alphabet[dice.Intn(len(alphabet))]
	}
	return string(b)
}

// somePiece is some piece of a text, most often a token or what stands between them.
func somePiece(dice *rand.Rand) string {
	switch dice.Intn(12) {
	case 0:
		return one(dice, "0x", "0X", "0", "") + someBytes(dice, 24, "01")
	case 1:
		return one(dice, "0x", "0X", "0", "1") + someBytes(dice, 3, "0127889abfgAFGx_")
	case 2:
		return one(dice, "1844674407370955161", "0xfffffffffffffff", "0177777777777777777777") + someBytes(dice, 2, "0123456789abf")
	case 3, 4:
		m := one(dice, `"`, "'")
		return m + someBytes(dice, 6, `\\\\\\01234567889abcdefxXnrtv?'"`) + m
	case 5:
		return one(dice, `"`, "'") + someBytes(dice, 3, "a\\x4\n\x00\xff/*'\"")
	case 6:
		return someBytes(dice, 4, "\t\n\r \v\f\x00\u00a0")
	case 7:
		return one(dice, "//", "/*", "*/", "/", "*", "/**/", "// a\n", "/* a */", "/*\n*/")
	case 8, 9:
		return written(someToken(dice))
	}
	return someBetween(dice)
}

// TestManyTextsAgainstModel: P9.1, P9.2, P9.6: many texts put together of pieces.
func TestManyTextsAgainstModel(t *testing.T) {
	dice := rand.New(rand.NewSource(4))
	taken, large := 0, 0
	for range 60000 {
		s := ""
		for range dice.Intn(6) {
			s += somePiece(dice) + one(dice, "", "", " ", "\n")
		}
		if against(t, s) {
			taken++
			checkPlaces(t, s)
		} else if _, _, err := modelScan(s); err == api.ErrNumber {
			large++
		}
		if t.Failed() {
			return
		}
	}
	if taken < 10000 || large < 500 {
		t.Error("too few had no fault, or a large number:", taken, large)
	}
}

// TestAnyBytes: P0.1, P0.9: whatever the bytes are, there is an answer, the same each time, and it is the model's.
func TestAnyBytes(t *testing.T) {
	dice := rand.New(rand.NewSource(5))
	for range 20000 {
		b := make([]byte, dice.Intn(40))
		dice.Read(b)
		if dice.Intn(2) == 0 {
			for i := range b {
				b[i] = 32 + b[i]%96
			}
		}
		if against(t, string(b)); t.Failed() {
			return
		}
		first, err1 := lex.Scan(b)
		second, err2 := lex.Scan(b)
		if !slices.Equal(first, second) || (err1 == nil) != (err2 == nil) {
			t.Fatalf("Scan(%q) differs", b)
		}
	}
}
