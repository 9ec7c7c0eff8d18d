package wire_test

import (
	"bytes"
	"errors"
	"math"
	"strings"
	"testing"

	"parley/api"
	"parley/wire"
)

// run is n bytes c, and the bytes tail behind them.
func run(n int, c byte, tail ...byte) []byte {
	return append(bytes.Repeat([]byte{c}, n), tail...)
}

// edges are the numbers around each power of two.
func edges() []uint64 {
	out := []uint64{0}
	for shift := range 64 {
		u := uint64(1) << shift
		out = append(out, u-1, u, u+1)
	}
	return append(out, math.MaxUint64)
}

// TestVarint: P1.1, how a number is written.
func TestVarint(t *testing.T) {
	for _, x := range []struct {
		u    uint64
		want []byte
	}{
		{0, []byte{0}},
		{1, []byte{1}},
		{127, []byte{127}},
		{128, []byte{128, 1}},
		{300, []byte{172, 2}},
		{1<<14 - 1, []byte{255, 127}},
		{1 << 14, []byte{128, 128, 1}},
		{1<<63 - 1, run(8, 255, 127)},
		{1 << 63, run(9, 128, 1)},
		{math.MaxUint64, run(9, 255, 1)},
	} {
		if got := wire.Varint(nil, x.u); !bytes.Equal(got, x.want) {
			t.Error("Varint", x.u, got)
		}
		if got := wire.Varint([]byte{128, 9}, x.u); !bytes.Equal(got, append([]byte{128, 9}, x.want...)) {
			t.Error("Varint behind others", x.u, got)
		}
		if got := wire.Size(x.u); got != len(x.want) {
			t.Error("Size", x.u, got)
		}
	}
}

// TestVarintShort: P1.1, as few bytes as there can be, the bit 128 in all but the last one.
func TestVarintShort(t *testing.T) {
	for _, u := range edges() {
		b := wire.Varint(nil, u)
		last := len(b) - 1
		if wire.Size(u) != len(b) || last > 0 && b[last] == 0 {
			t.Error("Varint too long", u, b)
		}
		for i, c := range b {
			if c&128 == 0 != (i == last) {
				t.Error("Varint", u, b, i)
			}
		}
	}
}

// TestUvarint: P1.1, how a number is read.
func TestUvarint(t *testing.T) {
	for _, x := range []struct {
		b    []byte
		u    uint64
		size int
		err  error
	}{
		{[]byte{172, 2}, 300, 2, nil},
		{[]byte{128, 0}, 0, 2, nil},
		{[]byte{0, 128}, 0, 1, nil},
		{[]byte{129, 128, 128, 0, 5}, 1, 4, nil},
		{nil, 0, 0, api.ErrEnd},
		{[]byte{}, 0, 0, api.ErrEnd},
		{[]byte{128}, 0, 0, api.ErrEnd},
		{run(9, 128), 0, 0, api.ErrEnd},
		{run(9, 255), 0, 0, api.ErrEnd},
		{run(9, 128, 0), 0, 10, nil},
		{run(9, 128, 1), 1 << 63, 10, nil},
		{run(9, 255, 1, 77), math.MaxUint64, 10, nil},
		{run(9, 255, 0), 1<<63 - 1, 10, nil},
		{run(9, 255, 2), 0, 0, api.ErrLong},
		{run(9, 128, 127), 0, 0, api.ErrLong},
		{run(10, 128), 0, 0, api.ErrLong},
		{run(10, 128, 0), 0, 0, api.ErrLong},
		{run(11, 255), 0, 0, api.ErrLong},
		{append([]byte{5}, run(11, 255)...), 5, 1, nil},
		{run(8, 255, 127, 255), 1<<63 - 1, 9, nil},
	} {
		if u, n, err := wire.Uvarint(x.b); u != x.u || n != x.size || err != x.err {
			t.Error("Uvarint", x.b, u, n, err)
		}
	}
}

// TestZig: P1.2.
func TestZig(t *testing.T) {
	for _, x := range []struct {
		n int64
		u uint64
	}{
		{0, 0},
		{-1, 1},
		{1, 2},
		{-2, 3},
		{150, 300},
		{math.MaxInt32, 1<<32 - 2},
		{math.MinInt32, 1<<32 - 1},
		{math.MaxInt64, math.MaxUint64 - 1},
		{math.MinInt64, math.MaxUint64},
	} {
		if u := wire.Zig(x.n); u != x.u {
			t.Error("Zig", x.n, u)
		}
		if n := wire.Zag(x.u); n != x.n {
			t.Error("Zag", x.u, n)
		}
	}
}

// TestFixed: P1.3, how a number is written.
func TestFixed(t *testing.T) {
	for _, x := range []struct {
		u     uint64
		bytes int
		want  []byte
	}{
		{258, 4, []byte{2, 1, 0, 0}},
		{258, 8, []byte{2, 1, 0, 0, 0, 0, 0, 0}},
		{0x0102030405060708, 8, []byte{8, 7, 6, 5, 4, 3, 2, 1}},
		{0x0102030405060708, 4, []byte{8, 7, 6, 5}},
		{math.MaxUint64, 4, run(4, 255)},
		{math.MaxUint64, 8, run(8, 255)},
		{1, 0, nil},
		{1, 1, nil},
		{1, 3, nil},
		{1, 5, nil},
		{1, 16, nil},
		{1, -4, nil},
		{1, math.MinInt, nil},
		{1, math.MaxInt, nil},
	} {
		if got := wire.Fixed(nil, x.u, x.bytes); !bytes.Equal(got, x.want) {
			t.Error("Fixed", x.u, x.bytes, got)
		}
		if got := wire.Fixed([]byte{9, 8}, x.u, x.bytes); !bytes.Equal(got, append([]byte{9, 8}, x.want...)) {
			t.Error("Fixed behind others", x.u, x.bytes, got)
		}
	}
}

// TestUnfixed: P1.3, how a number is read; of its errors ErrNumber is named first.
func TestUnfixed(t *testing.T) {
	for _, x := range []struct {
		b     []byte
		bytes int
		u     uint64
		err   error
	}{
		{[]byte{1, 2, 0, 0}, 4, 513, nil},
		{[]byte{1, 2, 0, 0, 7, 7}, 4, 513, nil},
		{[]byte{8, 7, 6, 5, 4, 3, 2, 1, 9}, 8, 0x0102030405060708, nil},
		{run(8, 255), 4, math.MaxUint32, nil},
		{run(8, 255), 8, math.MaxUint64, nil},
		{nil, 4, 0, api.ErrEnd},
		{[]byte{1, 2, 3}, 4, 0, api.ErrEnd},
		{run(7, 1), 8, 0, api.ErrEnd},
		{run(8, 1), 5, 0, api.ErrNumber},
		{run(8, 1), 0, 0, api.ErrNumber},
		{nil, 3, 0, api.ErrNumber},
		{nil, -8, 0, api.ErrNumber},
		{nil, math.MinInt, 0, api.ErrNumber},
		{nil, math.MaxInt, 0, api.ErrNumber},
	} {
		size := x.bytes
		if x.err != nil {
			size = 0
		}
		if u, n, err := wire.Unfixed(x.b, x.bytes); u != x.u || n != size || err != x.err {
			t.Error("Unfixed", x.b, x.bytes, u, n, err)
		}
	}
}

// TestTag: P1.4, how a tag is made.
func TestTag(t *testing.T) {
	for _, x := range []struct {
		field, kind int
		u           uint64
		err         error
	}{
		{1, api.WBytes, 10, nil},
		{1, api.WVarint, 8, nil},
		{1, api.WEnd, 12, nil},
		{2, api.WGroup, 19, nil},
		{2, api.W64, 17, nil},
		{api.MaxNumber, api.W32, 1<<32 - 3, nil},
		{0, 0, 0, api.ErrTag},
		{-1, 0, 0, api.ErrTag},
		{api.MaxNumber + 1, 0, 0, api.ErrTag},
		{math.MaxInt, 0, 0, api.ErrTag},
		{math.MinInt, 0, 0, api.ErrTag},
		{1, -1, 0, api.ErrTag},
		{1, 6, 0, api.ErrTag},
		{1, 8, 0, api.ErrTag},
		{1, math.MaxInt, 0, api.ErrTag},
		{1, math.MinInt, 0, api.ErrTag},
	} {
		if u, err := wire.Tag(x.field, x.kind); u != x.u || err != x.err {
			t.Error("Tag", x.field, x.kind, u, err)
		}
	}
}

// TestUntag: P1.4, how a tag is read.
func TestUntag(t *testing.T) {
	for _, x := range []struct {
		u           uint64
		field, kind int
		err         error
	}{
		{8, 1, api.WVarint, nil},
		{12, 1, api.WEnd, nil},
		{13, 1, api.W32, nil},
		{1<<32 - 3, api.MaxNumber, api.W32, nil},
		{0, 0, 0, api.ErrTag},
		{5, 0, 0, api.ErrTag},
		{6, 0, 0, api.ErrTag},
		{7, 0, 0, api.ErrTag},
		{14, 0, 0, api.ErrTag},
		{15, 0, 0, api.ErrTag},
		{1<<32 - 2, 0, 0, api.ErrTag},
		{1<<32 - 1, 0, 0, api.ErrTag},
		{1 << 32, 0, 0, api.ErrTag},
		{1<<32 + 8, 0, 0, api.ErrTag},
		{1<<35 + 8, 0, 0, api.ErrTag},
		{1<<63 + 8, 0, 0, api.ErrTag},
		{math.MaxUint64, 0, 0, api.ErrTag},
	} {
		if field, kind, err := wire.Untag(x.u); field != x.field || kind != x.kind || err != x.err {
			t.Error("Untag", x.u, field, kind, err)
		}
	}
}

// TestText: P1.8.
func TestText(t *testing.T) {
	for s, want := range map[string]bool{
		"":                               true,
		"plain":                          true,
		"\x00\x7f":                       true,
		"é\u0080\u07ff":                  true,
		"\u0800\uffff":                   true,
		"\U00010000\U0010ffff":           true,
		"\xed\x9f\xbf":                   true,  // 0xD7FF
		"\xee\x80\x80":                   true,  // 0xE000
		"\xef\xbf\xbd":                   true,  // the character that stands for a fault is none itself
		"\xed\xa0\x80":                   false, // 0xD800
		"\xed\xbf\xbf":                   false, // 0xDFFF
		"\xed\xa0\x80\xed\xb0\x80":       false, // a character above 0xFFFF, as two
		"\xf4\x90\x80\x80":               false, // 0x110000
		"\xf5\x80\x80\x80":               false,
		"\xf8\x88\x80\x80\x80":           false,
		"\xc0\x80":                       false, // 0 in two bytes
		"\xc1\xbf":                       false, // 127 in two bytes
		"\xe0\x9f\xbf":                   false, // 0x7FF in three bytes
		"\xf0\x8f\xbf\xbf":               false, // 0xFFFF in four bytes
		"\x80":                           false,
		"\xff":                           false,
		"a\xc3":                          false,
		"a\xe2\x82":                      false,
		"a\xe2\x82b":                     false,
		"\xf0\x9f\x98":                   false,
		strings.Repeat("a", 99) + "\xff": false,
	} {
		if got := wire.Text([]byte(s)); got != want {
			t.Errorf("Text(%q): %v", s, got)
		}
	}
	if !wire.Text(nil) {
		t.Error("Text of none")
	}
}

// TestBareErrors: P0.2, what the calls answer is the sentinel itself; only Check puts an *api.At around it.
func TestBareErrors(t *testing.T) {
	err := wire.Check([]byte{8})
	at := &api.At{}
	if !errors.Is(err, api.ErrEnd) || !errors.As(err, &at) || *at != (api.At{Err: api.ErrEnd}) {
		t.Error("Check", err)
	}
}
