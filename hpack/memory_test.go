package hpack_test

import (
	"bytes"
	"slices"
	"strings"
	"testing"

	"parley/api"
	"parley/hpack"
)

// roomy is l with room behind it in which marks stand, and a look that tells whether all of it is as it was.
func roomy[T comparable](l []T, mark T) ([]T, func() bool) {
	whole := slices.Concat(l, slices.Repeat([]T{mark}, 40))
	was := slices.Clone(whole)
	return whole[:len(l)], func() bool { return slices.Equal(whole, was) }
}

// spoil writes over all of a list, its spare room too.
func spoil[T any](l []T, mark T) {
	l = l[:cap(l)]
	for i := range l {
		l[i] = mark
	}
}

// TestMemoryOfPut: P4.7, P0.4: what is put stands in new memory, and b is as it was, what lies behind it too.
func TestMemoryOfPut(t *testing.T) {
	for name, put := range map[string]func([]byte) []byte{
		"PutInt":                   func(b []byte) []byte { return hpack.PutInt(b, 32, 5, 4096) },
		"PutInt of a single byte":  func(b []byte) []byte { return hpack.PutInt(b, 32, 5, 3) },
		"PutInt of none":           func(b []byte) []byte { return hpack.PutInt(b, 1, 5, 3) },
		"PutInt of no prefix":      func(b []byte) []byte { return hpack.PutInt(b, 0, 9, 3) },
		"PutText, coded":           func(b []byte) []byte { return hpack.PutText(b, "www.example.com") },
		"PutText, as it is":        func(b []byte) []byte { return hpack.PutText(b, "\"#") },
		"PutText, of no byte":      func(b []byte) []byte { return hpack.PutText(b, "") },
		"PutText, of a great text": func(b []byte) []byte { return hpack.PutText(b, strings.Repeat("\"", 300)) },
	} {
		for _, start := range [][]byte{nil, {8, 1, 16, 2}} {
			b, untouched := roomy(start, 201)
			first := put(b)
			was := bytes.Clone(first)
			spoil(put(b), 99)
			if !untouched() || !bytes.Equal(first, was) {
				t.Error(name, "shares memory")
			}
			spoil(first, 99)
			if !untouched() || !bytes.Equal(put(b), was) {
				t.Error(name, "keeps memory")
			}
		}
	}
}

// TestMemoryOfRead: P4.7, P0.4: what lies behind b is not read; b is as it was, and isn't kept.
func TestMemoryOfRead(t *testing.T) {
	for _, start := range [][]byte{nil, {255}, {127, 128}, {2, 65}, {3, 65, 66, 67}, {129, 7}, {130, 7}, {255, 128, 128, 128, 128}} {
		for _, mark := range []byte{0, 7, 255} {
			b, untouched := roomy(start, mark)
			for bits := 1; bits <= 8; bits++ {
				n, size, err := hpack.Int(b, bits)
				if wantN, wantSize, wantErr := readNumber(start, bits); n != wantN || size != wantSize || err != wantErr {
					t.Errorf("Int(%v, %d) reads behind the end: %d, %d, %v", start, bits, n, size, err)
				}
			}
			s, n, err := hpack.Text(b)
			if !untouched() {
				t.Errorf("%v was changed", start)
			}
			spoil(b, 99)
			if wantS, wantN, wantErr := readText(start); s != wantS || n != wantN || err != wantErr {
				t.Errorf("Text(%v) reads behind the end, or keeps b: %q, %d, %v", start, s, n, err)
			}
		}
	}
}

// TestMemoryOfEncode: P4.7, P0.4: the list is as it was and isn't kept; each block is new memory.
func TestMemoryOfEncode(t *testing.T) {
	mark := api.Header{Name: "mark", Value: "mark"}
	start := []api.Header{{Name: "a", Value: "1"}, {Name: ":method", Value: "GET"}, {Name: "s", Value: "2", Never: true}}
	for _, sizes := range []int{0, 1, 2} {
		e, want := madeEncoder(t, 4096), &writer{model: model{most: 4096}}
		for n := range sizes {
			_ = e.Resize(100 + n)
			want.resize(100 + n)
		}
		l, untouched := roomy(start, mark)
		first := e.Encode(l)
		if !untouched() {
			t.Error("the list was changed")
		}
		spoil(l, mark)
		was := want.encode(start)
		second := e.Encode(start)
		wantSecond := want.encode(start)
		spoil(second, 99)
		if !bytes.Equal(first, was) {
			t.Errorf("Encode = %v; want %v", first, was)
		}
		spoil(first, 99)
		if b := e.Encode(start); !bytes.Equal(b, wantSecond) {
			t.Errorf("Encode behind = %v; want %v", b, wantSecond)
		}
		if b := e.Encode([]api.Header{mark}); !bytes.Equal(b, want.encode([]api.Header{mark})) {
			t.Errorf("Encode of the mark = %v", b)
		}
	}
}

// TestMemoryOfDecode: P4.7, P0.4: the block is as it was, isn't kept, and what lies behind it isn't read; each list is new memory.
func TestMemoryOfDecode(t *testing.T) {
	mark := api.Header{Name: "mark", Value: "mark", Never: true}
	start := []byte{64, 1, 'a', 1, '1', 0, 129, 7, 129, 7, 190}
	want := list("a", "1", "0", "0", "a", "1")
	for _, behind := range []byte{0, 130, 255} {
		d := madeDecoder(t, 4096)
		b, untouched := roomy(start, behind)
		first, err := d.Decode(b)
		if !untouched() || err != nil {
			t.Errorf("the block was changed: %v", err)
		}
		spoil(b, 'z')
		if !slices.Equal(first, want) {
			t.Errorf("Decode = %v; want %v", first, want)
		}
		second, _ := d.Decode([]byte{190, 130})
		spoil(first, mark)
		if wantSecond := list("a", "1", ":method", "GET"); !slices.Equal(second, wantSecond) {
			t.Errorf("Decode = %v; want %v", second, wantSecond)
		}
		spoil(second, mark)
		decodes(t, d, []byte{190}, list("a", "1"), 1)
		cut, _ := roomy([]byte{64, 1, 'a', 2, '1'}, behind)
		faults(t, d, cut, api.ErrEnd)
	}
}

// TestMemoryOfSize: P4.7: the list is as it was, and what lies behind it isn't counted.
func TestMemoryOfSize(t *testing.T) {
	l, untouched := roomy(list("a", "b", "c", "d"), api.Header{Name: "mark"})
	if n := hpack.Size(l); n != 68 || !untouched() {
		t.Errorf("Size = %d; want 68", n)
	}
}
