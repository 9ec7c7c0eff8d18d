package lex

import (
	"strings"

	"parley/api"
)

// What stands behind a `\`, and, at the same places, what it says.
const (
	escapes = `abfnrtv\'"?`
	said    = "\a\b\f\n\r\t\v\\'\"?"
)

// text reads the text that begins here, and answers what it says.
func (s *scanner) text() (string, error) {
	var out []byte
	var c byte
	var ok bool
	end := s.take()
inside:
	switch c = s.take(); c {
	case end:
		return string(out), nil
	case 0, '\n':
		goto fault
	case '\\':
		goto escape
	}
	out = append(out, c)
	goto inside
escape:
	if c, ok = s.escape(); !ok {
		goto fault
	}
	out = append(out, c)
	goto inside
fault:
	return "", api.ErrToken
}

// escape reads what stands behind a `\`, and answers the byte that it says; false, if it may not stand there.
func (s *scanner) escape() (byte, bool) {
	if digit(s.here()) < 8 {
		n, _ := s.digits(8, 3)
		return byte(n), n <= 255
	}
	c := s.take()
	if c == 'x' || c == 'X' {
		n, many := s.digits(16, 2)
		return byte(n), many > 0
	}
	i := strings.IndexByte(escapes, c)
	if i < 0 {
		return 0, false
	}
	return said[i], true
}

// digits reads as many digits as there are, but at most most; it answers their number, and how many these are.
func (s *scanner) digits(base, most int) (int, int) {
	n, many := 0, 0
	for many < most && digit(s.here()) < base {
		n, many = n*base+digit(s.take()), many+1
	}
	return n, many
}

// Quote is a text that says s.
func Quote(s string) string {
	out := make([]byte, 0, len(s)+len(`""`))
	out = append(out, '"')
	for i := range len(s) {
		out = addQuoted(out, s[i])
	}
	return string(append(out, '"'))
}

// addQuoted is out and behind it how c is written within a text.
func addQuoted(out []byte, c byte) []byte {
	switch {
	case c == '"' || c == '\\':
		return append(out, '\\', c)
	case c == '\n':
		return append(out, `\n`...)
	case c == '\r':
		return append(out, `\r`...)
	case c == '\t':
		return append(out, `\t`...)
	case c >= ' ' && c <= '~':
		return append(out, c)
	}
	return append(out, '\\', '0'+c>>6, '0'+c>>3&7, '0'+c&7)
}
