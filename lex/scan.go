package lex

import (
	"bytes"
	"strconv"
	"strings"

	"parley/api"
)

const (
	blanks  = "\t\n\r "
	marks   = "{}[]()<>=;,.-"
	noDigit = 16 // what digit answers of a byte that is a digit in no base
)

// scanner stands at a byte of b.
type scanner struct {
	b  []byte
	at int
}

// walk yields the tokens of b with their numbers, until yield has enough or there is a fault: then it answers the error with its place.
func walk(b []byte, yield func(int, Token) bool) error {
	s := scanner{b: b}
	n := 0
	var t Token
	var err error
between:
	s.skip(blank)
	if s.at == len(b) {
		return nil
	}
	t = Token{Pos: s.at}
	switch c := s.here(); {
	case c == '/':
		goto comment
	case letter(c):
		goto word
	case decimal(c):
		goto number
	case c == '"' || c == '\'':
		goto text
	case strings.IndexByte(marks, c) >= 0:
		goto mark
	}
	err = api.ErrToken
	goto fault
comment:
	if err = s.comment(); err != nil {
		goto fault
	}
	goto between
word:
	t.Kind, t.S = Word, s.skip(wordByte)
	goto told
number:
	t.Kind = Number
	if t.N, err = number(s.skip(wordByte)); err != nil {
		goto fault
	}
	goto told
text:
	t.Kind = Text
	if t.S, err = s.text(); err != nil {
		goto fault
	}
	goto told
mark:
	t.Kind, t.S = Mark, string(s.take())
told:
	t.Len = s.at - t.Pos
	if !yield(n, t) {
		return nil
	}
	n++
	goto between
fault:
	return &api.At{Pos: t.Pos, Err: err}
}

// here is the byte at which the scanner stands; at the end 0, which begins nothing and may stand in comments alone.
func (s *scanner) here() byte {
	if s.at == len(s.b) {
		return 0
	}
	return s.b[s.at]
}

// take is the byte at which the scanner stands, and goes past it.
func (s *scanner) take() byte {
	c := s.here()
	if s.at < len(s.b) {
		s.at++
	}
	return c
}

// skip goes past all bytes from here on that are of that class, and answers them.
func (s *scanner) skip(class func(byte) bool) string {
	start := s.at
	for s.at < len(s.b) && class(s.b[s.at]) {
		s.at++
	}
	return string(s.b[start:s.at])
}

// comment goes past the comment that begins here.
func (s *scanner) comment() error {
	const open = len("/*")
	left := s.b[s.at:]
	if bytes.HasPrefix(left, []byte("//")) {
		s.skip(func(c byte) bool { return c != '\n' })
		return nil
	}
	if !bytes.HasPrefix(left, []byte("/*")) {
		return api.ErrToken
	}
	// Looked for behind what opens it: `/*/` has not ended.
	inside, _, ended := bytes.Cut(left[open:], []byte("*/"))
	if !ended {
		return api.ErrToken
	}
	s.at += open + len(inside) + len("*/")
	return nil
}

// number is the number that s is. No letter, digit or `_` may stand behind one, so that all of these together are it, or it is none.
func number(s string) (uint64, error) {
	digits, base := s, 10
	switch {
	case strings.HasPrefix(s, "0x"), strings.HasPrefix(s, "0X"):
		digits, base = s[2:], 16
	case s[0] == '0':
		base = 8
	}
	if digits == "" {
		return 0, api.ErrToken
	}
	// Ahead of reading them, as ParseUint tells of too large a number before it has seen all digits.
	for i := range len(digits) {
		if digit(digits[i]) >= base {
			return 0, api.ErrToken
		}
	}
	u, err := strconv.ParseUint(digits, base, 64)
	if err != nil {
		return 0, api.ErrNumber
	}
	return u, nil
}

func blank(c byte) bool {
	return strings.IndexByte(blanks, c) >= 0
}

// letter tells whether a word may begin with c.
func letter(c byte) bool {
	return c >= 'a' && c <= 'z' || c >= 'A' && c <= 'Z' || c == '_'
}

func decimal(c byte) bool {
	return c >= '0' && c <= '9'
}

func wordByte(c byte) bool {
	return letter(c) || decimal(c)
}

// digit is what c says as a digit; noDigit, if it is none.
func digit(c byte) int {
	switch {
	case decimal(c):
		return int(c - '0')
	case c >= 'a' && c <= 'f':
		return int(c-'a') + 10
	case c >= 'A' && c <= 'F':
		return int(c-'A') + 10
	}
	return noDigit
}
