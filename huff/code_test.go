package huff_test

import (
	"math"
	"strconv"
	"strings"
	"testing"

	"parley/huff"
)

const end = 256

// sizes are the chapter's numbers of bits, written out.
func sizes() []int {
	return []int{
		13, 23, 28, 28, 28, 28, 28, 28, 28, 24, 30, 28, 28, 30, 28, 28,
		28, 28, 28, 28, 28, 28, 30, 28, 28, 28, 28, 28, 28, 28, 28, 28,
		6, 10, 10, 12, 13, 6, 8, 11, 10, 10, 8, 11, 8, 6, 6, 6,
		5, 5, 5, 6, 6, 6, 6, 6, 6, 6, 7, 8, 15, 6, 12, 10,
		13, 6, 7, 7, 7, 7, 7, 7, 7, 7, 7, 7, 7, 7, 7, 7,
		7, 7, 7, 7, 7, 7, 7, 7, 8, 7, 8, 13, 19, 13, 14, 6,
		15, 5, 6, 5, 6, 5, 6, 6, 6, 5, 7, 7, 6, 6, 6, 5,
		6, 7, 6, 5, 5, 6, 7, 7, 7, 7, 7, 15, 11, 14, 13, 28,
		20, 22, 20, 20, 22, 22, 22, 23, 22, 23, 23, 23, 23, 23, 24, 23,
		24, 24, 22, 23, 24, 23, 23, 23, 23, 21, 22, 23, 22, 23, 23, 24,
		22, 21, 20, 22, 22, 23, 23, 21, 23, 22, 22, 24, 21, 22, 23, 23,
		21, 21, 22, 21, 23, 22, 23, 23, 20, 22, 22, 22, 23, 22, 22, 23,
		26, 26, 20, 19, 22, 23, 22, 25, 26, 26, 26, 27, 27, 26, 24, 25,
		19, 21, 26, 27, 27, 26, 27, 24, 21, 21, 26, 26, 28, 27, 27, 27,
		20, 24, 20, 21, 22, 21, 21, 23, 22, 22, 25, 25, 24, 24, 26, 23,
		26, 27, 26, 26, 27, 27, 27, 27, 27, 28, 27, 27, 27, 27, 27, 26,
		30,
	}
}

// digits are the codes as texts of 0 and 1, handed out as the chapter says it: by rising numbers of bits, then by rising symbols.
func digits() []string {
	out := make([]string, end+1)
	code, last := int64(-1), 5
	for n := 5; n <= 30; n++ {
		for symbol, size := range sizes() {
			if size != n {
				continue
			}
			code = (code + 1) << (n - last)
			last = n
			text := strconv.FormatInt(code, 2)
			out[symbol] = strings.Repeat("0", n-len(text)) + text
		}
	}
	return out
}

// noSymbols are numbers that no symbol has.
func noSymbols() []int {
	return []int{-1, -5, -256, -257, 257, 258, 512, 1 << 20, math.MaxInt32, math.MinInt32, math.MaxInt, math.MinInt, 1 << 40, 1<<40 + 48}
}

// TestBits: P2.1, how many bits each symbol's code has.
func TestBits(t *testing.T) {
	for symbol, want := range sizes() {
		if n, ok := huff.Bits(symbol); n != want || !ok {
			t.Error("Bits", symbol, n, ok)
		}
	}
	for _, symbol := range noSymbols() {
		if n, ok := huff.Bits(symbol); n != 0 || ok {
			t.Error("Bits", symbol, n, ok)
		}
	}
}

// TestCode: P2.1, each symbol's code, as it is handed out.
func TestCode(t *testing.T) {
	for symbol, text := range digits() {
		want, _ := strconv.ParseUint(text, 2, 32)
		if code, ok := huff.Code(symbol); code != uint32(want) || !ok {
			t.Error("Code", symbol, code, ok)
		}
	}
	for _, symbol := range noSymbols() {
		if code, ok := huff.Code(symbol); code != 0 || ok {
			t.Error("Code", symbol, code, ok)
		}
	}
}

// TestKnownCodes: P2.1, the chapter's examples and codes that RFC 7541's appendix B writes out.
func TestKnownCodes(t *testing.T) {
	for symbol, want := range map[int]uint32{
		0: 0x1ff8, 1: 0x7fffd8, 2: 0xfffffe2, 9: 0xffffea, 10: 0x3ffffffc, 13: 0x3ffffffd, 22: 0x3ffffffe,
		32: 20, 33: 0x3f8, 48: 0, 50: 2, 51: 0x19, 57: 0x1f, 58: 0x5c, 65: 0x21, 66: 0x5d, 90: 0xfd, 92: 0x7fff0,
		96: 0x7ffd, 97: 3, 116: 9, 122: 0x7b, 127: 0xffffffc, 128: 0xfffe6, 195: 0x7fff1, 208: 0x7fff2,
		249: 0xffffffe, 255: 67108846, end: 1073741823,
	} {
		if code, ok := huff.Code(symbol); code != want || !ok {
			t.Error("Code", symbol, code, ok)
		}
	}
}

// TestNoneBeginsAnother: P2.6, of the codes as they are told.
func TestNoneBeginsAnother(t *testing.T) {
	for a := range end + 1 {
		aBits, _ := huff.Bits(a)
		aCode, _ := huff.Code(a)
		for b := range end + 1 {
			bBits, _ := huff.Bits(b)
			bCode, _ := huff.Code(b)
			if a != b && aBits <= bBits && bCode>>(bBits-aBits) == aCode {
				t.Error("the code of", a, "begins that of", b)
			}
		}
	}
}

// TestSum: P2.6, the codes leave no room for another one.
func TestSum(t *testing.T) {
	sum := 0
	for symbol := range end + 1 {
		n, _ := huff.Bits(symbol)
		sum += 1 << (30 - n)
	}
	if sum != 1<<30 {
		t.Error("the sum", sum)
	}
}
