package huff_test

import (
	"bytes"
	"sync"
	"testing"

	"parley/huff"
)

// spoil writes over all of a list, its spare room too.
func spoil(b []byte) {
	b = b[:cap(b)]
	for i := range b {
		b[i] = 99
	}
}

// TestMemoryOfEncode: P2.4, P0.4: each list is new memory, spare room too.
func TestMemoryOfEncode(t *testing.T) {
	for _, s := range texts() {
		first := huff.Encode(s)
		was := bytes.Clone(first)
		second := huff.Encode(s)
		spoil(second)
		if !bytes.Equal(first, was) {
			t.Errorf("Encode(%q) shares memory", s)
		}
		spoil(first)
		if !bytes.Equal(huff.Encode(s), was) {
			t.Errorf("Encode(%q) keeps memory", s)
		}
	}
}

// TestMemoryOfDecode: P2.4, P0.4: the list is as it was and isn't kept; what lies behind it is neither read nor written.
func TestMemoryOfDecode(t *testing.T) {
	c := newCoder()
	for _, start := range [][]byte{nil, {7}, {0}, {255}, {255, 255, 255}, {255, 255, 255, 251}, huff.Encode("www.example.com")} {
		for _, mark := range []byte{0, 7, 255} {
			whole := append(bytes.Clone(start), bytes.Repeat([]byte{mark}, 20)...)
			was := bytes.Clone(whole)
			b := whole[:len(start)]
			s, err := huff.Decode(b)
			if want, wantErr := c.decode(start); s != want || err != wantErr {
				t.Errorf("Decode(%v) reads behind the end: %q, %v", start, s, err)
			}
			if !bytes.Equal(whole, was) {
				t.Errorf("Decode(%v) changes what it is handed", start)
			}
			spoil(b)
			if want, _ := c.decode(start); s != want {
				t.Errorf("Decode(%v) keeps memory: %q", start, s)
			}
		}
	}
}

// TestSideBySide: P0.5: what is answered hangs on the arguments alone, whoever else calls.
func TestSideBySide(t *testing.T) {
	var group sync.WaitGroup
	for range 8 {
		group.Go(func() {
			for _, s := range randomTexts(50) {
				if got, err := huff.Decode(huff.Encode(s)); got != s || err != nil {
					t.Errorf("Decode of Encode(%q): %q, %v", s, got, err)
				}
			}
		})
	}
	group.Wait()
}
