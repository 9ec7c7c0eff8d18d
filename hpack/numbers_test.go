package hpack_test

import (
	"bytes"
	"math"
	"math/rand"
	"slices"
	"testing"

	"parley/api"
	"parley/hpack"
)

const greatest = 1<<31 - 1

// putNumber is what stands behind b, where PutInt takes it: another way to say P4.1, digit by digit to the base 128.
func putNumber(first, bits, n int) []byte {
	least := 1<<bits - 1
	if n < least {
		return []byte{byte(first + n)}
	}
	out := []byte{byte(first + least)}
	rest := n - least
	for rest/128 > 0 {
		out = append(out, byte(rest%128+128))
		rest /= 128
	}
	return append(out, byte(rest))
}

// readNumber is what Int answers: it looks for the end first, then adds up.
func readNumber(b []byte, bits int) (int, int, error) {
	if bits < 1 || bits > 8 {
		return 0, 0, api.ErrLong
	}
	if len(b) == 0 {
		return 0, 0, api.ErrEnd
	}
	sum := int64(b[0]) % (1 << bits)
	if sum != 1<<bits-1 {
		return int(sum), 1, nil
	}
	behind := b[1:min(len(b), 6)]
	end := slices.IndexFunc(behind, func(c byte) bool { return c < 128 })
	if end < 0 && len(behind) < 5 {
		return 0, 0, api.ErrEnd
	}
	if end < 0 {
		return 0, 0, api.ErrLong
	}
	weight := int64(1)
	for _, c := range behind[:end+1] {
		sum += int64(c%128) * weight
		weight *= 128
	}
	if sum > greatest {
		return 0, 0, api.ErrLong
	}
	return int(sum), end + 2, nil
}

// firsts are the bytes whose lowest bits bits are 0.
func firsts(bits int) []int {
	var out []int
	for first := 0; first < 256; first += 1 << bits {
		out = append(out, first)
	}
	return out
}

// numbers are those at which a number with that prefix gets longer, the greatest one, and some between.
func numbers(bits int) []int {
	out := []int{0, 1, 10, 42, 1337, greatest - 1, greatest}
	for _, more := range []int{0, 1 << 7, 1 << 14, 1 << 21, 1 << 28} {
		for d := -2; d <= 2; d++ {
			if n := 1<<bits - 1 + more + d; n >= 0 {
				out = append(out, n)
			}
		}
	}
	return out
}

// TestPutInt: P4.1, with each prefix, each first byte, and the numbers at the edges.
func TestPutInt(t *testing.T) {
	for bits := 1; bits <= 8; bits++ {
		for _, first := range firsts(bits) {
			for _, n := range numbers(bits) {
				for _, b := range [][]byte{nil, {9, 255}} {
					want := append(bytes.Clone(b), putNumber(first, bits, n)...)
					if got := hpack.PutInt(b, first, bits, n); !bytes.Equal(got, want) {
						t.Errorf("PutInt(%v, %d, %d, %d) = %v; want %v", b, first, bits, n, got, want)
					}
				}
			}
		}
	}
}

// TestPutIntExamples: P4.1, the chapter's examples, those of RFC 7541's appendix C.1, and how long the greatest is.
func TestPutIntExamples(t *testing.T) {
	for _, x := range []struct {
		first, bits, n int
		want           []byte
	}{
		{0, 5, 10, []byte{10}}, {0, 5, 1337, []byte{31, 154, 10}}, {0, 8, 42, []byte{42}},
		{0, 5, 30, []byte{30}}, {0, 5, 31, []byte{31, 0}}, {0, 5, 158, []byte{31, 127}}, {0, 5, 159, []byte{31, 128, 1}},
		{128, 7, 126, []byte{254}}, {128, 7, 127, []byte{255, 0}}, {254, 1, 0, []byte{254}}, {254, 1, 1, []byte{255, 0}},
		{0, 8, greatest, []byte{255, 128, 254, 255, 255, 7}}, {0, 1, greatest, []byte{1, 254, 255, 255, 255, 7}},
	} {
		if got := hpack.PutInt(nil, x.first, x.bits, x.n); !bytes.Equal(got, x.want) {
			t.Errorf("PutInt(none, %d, %d, %d) = %v; want %v", x.first, x.bits, x.n, got, x.want)
		}
	}
}

// TestPutIntOfNone: P4.1, b alone, whatever of bits, n and first may not be.
func TestPutIntOfNone(t *testing.T) {
	type call struct{ first, bits, n int }
	wrong := []call{{1, 5, 3}, {16, 5, 3}, {31, 5, 3}, {33, 5, 3}, {1, 1, 0}, {64, 7, 0}, {127, 7, 200}, {255, 7, 0}, {1, 8, 0}, {128, 8, 0}}
	for _, bits := range []int{0, -1, 9, 10, 31, 32, 63, 64, 65, 1 << 32, math.MaxInt, math.MinInt} {
		wrong = append(wrong, call{0, bits, 0}, call{0, bits, 1}, call{128, bits, 1})
	}
	for bits := 1; bits <= 8; bits++ {
		for _, n := range []int{-1, -128, math.MinInt32, math.MinInt, greatest + 1, 1 << 32, 1 << 40, math.MaxInt} {
			wrong = append(wrong, call{0, bits, n})
		}
		for _, first := range []int{-1, -256, 256, 512, 1 << 16, 1 << 32, math.MaxInt, math.MinInt} {
			wrong = append(wrong, call{first, bits, 3})
		}
	}
	for _, x := range wrong {
		for _, b := range [][]byte{nil, {9, 255}} {
			if got := hpack.PutInt(b, x.first, x.bits, x.n); !bytes.Equal(got, b) {
				t.Errorf("PutInt(%v, %d, %d, %d) = %v; want b alone", b, x.first, x.bits, x.n, got)
			}
		}
	}
}

// checkInt holds Int against the other way.
func checkInt(t *testing.T, b []byte, bits int) {
	t.Helper()
	n, size, err := hpack.Int(b, bits)
	if wantN, wantSize, wantErr := readNumber(b, bits); n != wantN || size != wantSize || err != wantErr {
		t.Errorf("Int(%v, %d) = %d, %d, %v; want %d, %d, %v", b, bits, n, size, err, wantN, wantSize, wantErr)
	}
}

// TestIntExamples: P4.1, the chapter's examples, and both sides of the edges.
func TestIntExamples(t *testing.T) {
	for _, x := range []struct {
		b       []byte
		bits    int
		n, size int
		err     error
	}{
		{[]byte{31, 154, 10}, 5, 1337, 3, nil},
		{[]byte{31, 128}, 5, 0, 0, api.ErrEnd},
		{[]byte{255}, 8, 0, 0, api.ErrEnd},
		{[]byte{31, 128, 128, 128, 128, 128, 0}, 5, 0, 0, api.ErrLong},
		{nil, 5, 0, 0, api.ErrEnd},
		{[]byte{255, 154, 10, 9}, 5, 1337, 3, nil}, // the bits above the prefix are not looked at
		{[]byte{234}, 5, 10, 1, nil},
		{[]byte{254}, 1, 0, 1, nil},
		{[]byte{31, 128, 128, 128, 128}, 5, 0, 0, api.ErrEnd},
		{[]byte{31, 128, 128, 128, 128, 128}, 5, 0, 0, api.ErrLong}, // as soon as they are there
		{[]byte{31, 128, 128, 128, 128, 0}, 5, 31, 6, nil},          // longer than it must be
		{[]byte{31, 128, 0}, 5, 31, 3, nil},
		{[]byte{255, 128, 254, 255, 255, 7}, 8, greatest, 6, nil},
		{[]byte{255, 129, 254, 255, 255, 7}, 8, 0, 0, api.ErrLong},
		{[]byte{255, 255, 255, 255, 255, 7}, 8, 0, 0, api.ErrLong},
		{[]byte{255, 128, 128, 128, 128, 8}, 8, 0, 0, api.ErrLong},
		{[]byte{255, 255, 255, 255, 255, 127}, 8, 0, 0, api.ErrLong},
		{[]byte{1, 254, 255, 255, 255, 7}, 1, greatest, 6, nil},
		{[]byte{1, 255, 255, 255, 255, 7}, 1, 0, 0, api.ErrLong},
		{nil, 0, 0, 0, api.ErrLong}, // the prefix is looked at first
		{nil, 9, 0, 0, api.ErrLong},
	} {
		if n, size, err := hpack.Int(x.b, x.bits); n != x.n || size != x.size || err != x.err {
			t.Errorf("Int(%v, %d) = %d, %d, %v; want %d, %d, %v", x.b, x.bits, n, size, err, x.n, x.size, x.err)
		}
	}
}

// TestIntOfNoPrefix: P4.1, ErrLong, whatever b is.
func TestIntOfNoPrefix(t *testing.T) {
	for _, bits := range []int{0, -1, -8, 9, 16, 32, 64, 1 << 32, math.MaxInt, math.MinInt} {
		for _, b := range [][]byte{nil, {0}, {1}, {255}, {255, 1}} {
			if n, size, err := hpack.Int(b, bits); n != 0 || size != 0 || err != api.ErrLong {
				t.Errorf("Int(%v, %d) = %d, %d, %v; want ErrLong", b, bits, n, size, err)
			}
		}
	}
}

// TestIntOfAnyBytes: P4.1, P0.9, all short lists, and long ones at random.
func TestIntOfAnyBytes(t *testing.T) {
	for bits := -1; bits <= 10; bits++ {
		checkInt(t, nil, bits)
		for c := range 256 {
			checkInt(t, []byte{byte(c)}, bits)
			for d := range 256 {
				checkInt(t, []byte{byte(c), byte(d)}, bits)
				checkInt(t, []byte{255, byte(c), byte(d)}, bits)
				checkInt(t, []byte{255, 255, 255, 255, byte(c), byte(d)}, bits)
				checkInt(t, []byte{255, 128, byte(c), 255, 255, byte(d)}, bits)
			}
		}
	}
	dice := rand.New(rand.NewSource(1))
	for range 20000 {
		b := make([]byte, dice.Intn(9))
		dice.Read(b)
		for i := range b {
			if dice.Intn(2) == 0 {
				b[i] |= 128
			}
		}
		if len(b) > 0 && dice.Intn(2) == 0 {
			b[0] = 255
		}
		checkInt(t, b, 1+dice.Intn(8))
	}
}

// TestNumbersThereAndBack: P4.1, P0.8, whatever stands behind, and of each beginning of it ErrEnd.
func TestNumbersThereAndBack(t *testing.T) {
	for bits := 1; bits <= 8; bits++ {
		for _, first := range firsts(bits) {
			for _, n := range numbers(bits) {
				b := hpack.PutInt(nil, first, bits, n)
				for _, behind := range [][]byte{nil, {0}, {255, 255}} {
					got, size, err := hpack.Int(append(bytes.Clone(b), behind...), bits)
					if got != n || size != len(b) || err != nil {
						t.Errorf("Int of PutInt(%d, %d, %d): %d, %d, %v", first, bits, n, got, size, err)
					}
				}
				for cut := range len(b) {
					if got, size, err := hpack.Int(b[:cut], bits); got != 0 || size != 0 || err != api.ErrEnd {
						t.Errorf("Int(%v, %d) = %d, %d, %v; want ErrEnd", b[:cut], bits, got, size, err)
					}
				}
			}
		}
	}
}
