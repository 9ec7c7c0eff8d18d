package lex_test

import (
	"strings"
	"testing"

	"parley/api"
)

// says: in either mark, inside is a text that says what.
func says(t *testing.T, inside, what string) {
	t.Helper()
	for _, m := range []string{`"`, "'"} {
		s := m + inside + m
		reads(t, s, text(0, len(s), what))
		reads(t, "a"+s+s+"=", word(0, "a"), text(1, len(s), what), text(1+len(s), len(s), what), mark(1+2*len(s), "="))
	}
}

// speechless: in either mark, inside is no text, with what stands behind it or without.
func speechless(t *testing.T, inside string) {
	t.Helper()
	for _, m := range []string{`"`, "'"} {
		none(t, m+inside+m)
		none(t, m+inside)
		none(t, m+"ok"+inside+"ok"+m)
	}
}

// TestTextBytes: P9.1: any bytes but 0, 10, the mark and `\` say themselves.
func TestTextBytes(t *testing.T) {
	says(t, "", "")
	says(t, "a b", "a b")
	says(t, "// /* x */ #", "// /* x */ #")
	says(t, "é\xff\x01\r\t", "é\xff\x01\r\t")
	for i := range 256 {
		s := string([]byte{byte(i)})
		switch s {
		case "\x00", "\n":
			speechless(t, s)
		case "\\", `"`, "'":
		default:
			says(t, s, s)
			says(t, "x"+s+"y", "x"+s+"y")
		}
	}
	reads(t, `"'"'"'`, text(0, 3, "'"), text(3, 3, `"`))
	reads(t, `"it's" 'so "so"'`, text(0, 6, "it's"), text(7, 9, `so "so"`))
	long := strings.Repeat("x", api.MaxText-2)
	reads(t, `"`+long+`"`, text(0, api.MaxText, long))
}

// TestTextEscapes: P9.1: what a byte says behind a `\`.
func TestTextEscapes(t *testing.T) {
	simple := map[byte]byte{'a': 7, 'b': 8, 'f': 12, 'n': 10, 'r': 13, 't': 9, 'v': 11, '\\': '\\', '\'': '\'', '"': '"', '?': '?'}
	for i := range 256 {
		c := byte(i)
		said, ok := simple[c]
		switch {
		case ok:
			says(t, string([]byte{'\\', c}), string([]byte{said}))
			says(t, string([]byte{'x', '\\', c, '1'}), string([]byte{'x', said, '1'}))
		case c >= '0' && c <= '7':
			says(t, string([]byte{'\\', c}), string([]byte{c - '0'}))
		default:
			none(t, string([]byte{'"', '\\', c, '"'}))
			none(t, string([]byte{'\'', '\\', c, ';', '\''}))
		}
	}
	says(t, `\\n`, `\n`)
	says(t, `\\\\`, `\\`)
	says(t, `\\\"\'`, `\"'`)
	none(t, `"\"`)
	none(t, `"\\\"`)
	none(t, `'\'`)
}

// TestTextHexadecimal: P9.1: `\x` and one or two digits.
func TestTextHexadecimal(t *testing.T) {
	const low, high = "0123456789abcdef", "0123456789ABCDEF"
	for i := range 16 {
		for _, digits := range []string{low, high} {
			one := digits[i : i+1]
			says(t, `\x`+one, string([]byte{byte(i)}))
			says(t, `\X`+one+"g", string([]byte{byte(i), 'g'}))
			says(t, `\x`+one+" 1", string([]byte{byte(i)})+" 1")
			for j := range 16 {
				for _, more := range []string{low, high} {
					n := byte(16*i + j)
					says(t, `\x`+one+more[j:j+1], string([]byte{n}))
					says(t, `\X`+one+more[j:j+1]+"0", string([]byte{n, '0'}))
				}
			}
		}
	}
	for _, s := range []string{`\x`, `\X`, `\xg`, `\x `, `\x\x41`, `\x_1`, `\x-1`, `\x:`, `\x@`, "\\x`"} {
		speechless(t, s)
	}
}

// TestTextOctal: P9.1: one to three digits, as many as there are, 255 at most.
func TestTextOctal(t *testing.T) {
	const digits = "01234567"
	for i := range 8 {
		for j := range 8 {
			two := `\` + digits[i:i+1] + digits[j:j+1]
			says(t, two, string([]byte{byte(8*i + j)}))
			says(t, two+"8", string([]byte{byte(8*i + j), '8'}))
			says(t, two+`\0`, string([]byte{byte(8*i + j), 0}))
			for k := range 8 {
				three, n := two+digits[k:k+1], 64*i+8*j+k
				if n > 255 {
					speechless(t, three)
					continue
				}
				says(t, three, string([]byte{byte(n)}))
				says(t, three+"0", string([]byte{byte(n), '0'}))
			}
		}
	}
	says(t, `\08`, "\x008")
	says(t, `\0`, "\x00")
	says(t, `\7f`, "\x07f")
	for _, s := range []string{`\8`, `\9`, `\400`, `\777`, `\4000`} {
		speechless(t, s)
	}
}

// TestTextEnds: P9.1: a text that doesn't end is a fault where it begins, wherever it breaks off.
func TestTextEnds(t *testing.T) {
	for _, m := range []string{`"`, "'"} {
		for _, s := range []string{"", "a", "a ", `\`, `a\`, `\x`, `\x4`, `\x41`, `\1`, `\12`, `\101`, `\n`, "a // ", "/*", "a\n" + m, "\n" + m, "a\x00" + m, "\\\n" + m, "\\\x00" + m, "\\" + m} {
			none(t, m+s)
		}
	}
	none(t, `"a'`)
	none(t, `'a"`)
	faulty(t, `"a""`, 3, api.ErrToken, text(0, 3, "a"))
	none(t, `"`+strings.Repeat("x", api.MaxText-100))
}

// TestComments: P9.1: comments up to the next byte 10 or the end, and up to the next `*/`.
func TestComments(t *testing.T) {
	for _, s := range []string{"//", "// a", "//\n", "// a\n", "//\n//\n", "///", "// /* a", "// \x00\xff \"", "/**/", "/***/", "/* a */", "/*\n*/", "/* // */", "/* /* */", "/*\x00\xff\"'*/", "/*/*/", "/**/ /**/", "/**//**/", " \t\r\n", "/* * / **/", "//\r a", "/*\n*///"} {
		reads(t, s)
		reads(t, s+"\na", word(len(s)+1, "a"))
		reads(t, "a"+s, word(0, "a"))
		reads(t, "1"+s, number(0, 1, 1))
	}
	reads(t, "/**/a", word(4, "a"))
	reads(t, "a/* b */c", word(0, "a"), word(8, "c"))
	reads(t, "// a\nb// c", word(5, "b"))
	reads(t, "// a */ b")
	reads(t, "/* a */ b */c"[:9], word(8, "b"))
	for _, s := range []string{"/", "/a", "/ /", "/ *", "/=", "/*", "/* ", "/*/", "/* /", "/* * /", "/**", "/* // *\n/", "*/", "*", "/* */ */"[6:]} {
		none(t, s)
	}
	faulty(t, "/* a */ b */c", 10, api.ErrToken, word(8, "b"))
	faulty(t, "/**/ /*", 5, api.ErrToken)
	faulty(t, "a / b", 2, api.ErrToken, word(0, "a"))
	faulty(t, "a/*", 1, api.ErrToken, word(0, "a"))
}

// TestFirstFault: P9.1, P9.2: the first fault is told, and the tokens ahead of it.
func TestFirstFault(t *testing.T) {
	faulty(t, "a # 08", 2, api.ErrToken, word(0, "a"))
	faulty(t, "a 18446744073709551616 #", 2, api.ErrNumber, word(0, "a"))
	faulty(t, "a # 18446744073709551616", 2, api.ErrToken, word(0, "a"))
	faulty(t, "a /* 1", 2, api.ErrToken, word(0, "a"))
	faulty(t, `x = "\q" ;`, 4, api.ErrToken, word(0, "x"), mark(2, "="))
	faulty(t, "// a\n// b\n$", 10, api.ErrToken)
	faulty(t, "{}\v", 2, api.ErrToken, mark(0, "{"), mark(1, "}"))
	faulty(t, "\ufeffa", 0, api.ErrToken)
}
