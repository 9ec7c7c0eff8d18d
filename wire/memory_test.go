package wire_test

import (
	"bytes"
	"sync"
	"testing"

	"parley/api"
	"parley/wire"
)

const (
	spare = 40  // bytes of room behind what is handed in
	mark  = 201 // what stands there
)

// roomy is b with marked room behind it, and a look that tells whether all of it is as it was.
func roomy(b []byte) ([]byte, func() bool) {
	whole := append(bytes.Clone(b), run(spare, mark)...)
	was := bytes.Clone(whole)
	return whole[:len(b)], func() bool { return bytes.Equal(whole, was) }
}

// spoil writes over all of a list, its spare room too.
func spoil(b []byte) {
	b = b[:cap(b)]
	for i := range b {
		b[i] = 99
	}
}

// sampleRecord is a record of that kind that Put takes.
func sampleRecord(kind int) wire.Record {
	return wire.Record{Field: 5, Kind: kind, U: 300, B: []byte{8, 1}}
}

// TestMemoryOfWriters: P1.9, P0.4: what is written stands in new memory, and b is as it was, what lies behind it too.
func TestMemoryOfWriters(t *testing.T) {
	writers := map[string]func([]byte) []byte{
		"Varint":   func(b []byte) []byte { return wire.Varint(b, 300) },
		"Fixed 4":  func(b []byte) []byte { return wire.Fixed(b, 300, 4) },
		"Fixed 8":  func(b []byte) []byte { return wire.Fixed(b, 300, 8) },
		"Fixed 3":  func(b []byte) []byte { return wire.Fixed(b, 300, 3) },
		"Fixed -1": func(b []byte) []byte { return wire.Fixed(b, 300, -1) },
	}
	for _, kind := range []int{api.WVarint, api.W64, api.WBytes, api.WGroup, api.W32} {
		writers["Put "+string(rune('0'+kind))] = func(b []byte) []byte {
			out, err := wire.Put(b, sampleRecord(kind))
			if err != nil {
				t.Error("Put", kind, err)
			}
			return out
		}
	}
	for name, write := range writers {
		for _, start := range [][]byte{nil, {8, 1, 16, 2}} {
			b, untouched := roomy(start)
			first := write(b)
			was := bytes.Clone(first)
			second := write(b)
			spoil(second)
			if !untouched() || !bytes.Equal(first, was) {
				t.Error(name, "shares memory")
			}
			spoil(first)
			if !untouched() || !bytes.Equal(write(b), was) {
				t.Error(name, "keeps memory")
			}
		}
	}
}

// TestMemoryOfPut: P1.9: the record that is put is as it was, and isn't kept; neither where there is an error.
func TestMemoryOfPut(t *testing.T) {
	for _, kind := range []int{api.WVarint, api.W64, api.WBytes, api.WGroup, api.WEnd, api.W32} {
		r := sampleRecord(kind)
		var untouched func() bool
		r.B, untouched = roomy(r.B)
		b, also := roomy([]byte{7})
		out, _ := wire.Put(b, r)
		spoil(out)
		if !untouched() || !also() {
			t.Error("Put", kind, "shares memory")
		}
	}
}

// TestMemoryOfReaders: P1.9, P0.4: what is read is as it was, and what lies behind it isn't looked at.
func TestMemoryOfReaders(t *testing.T) {
	for _, start := range [][]byte{nil, {136}, {8, 1}, {18, 2, 65, 66}, {18, 3, 65}, {13, 1}, {11, 8, 1, 12}, {11, 8, 1}} {
		b, untouched := roomy(start)
		r, n, err := wire.Next(b)
		was, wasN, wasErr := wire.Next(bytes.Clone(start))
		if !same(r, was) || n != wasN || err != wasErr {
			t.Error("Next", start, "reads behind the end")
		}
		spoil(r.B)
		wire.Uvarint(b)
		wire.Unfixed(b, 4)
		wire.Unfixed(b, 8)
		wire.Check(b)
		wire.Text(b)
		for _, r := range wire.Records(b) {
			spoil(r.B)
		}
		if !untouched() {
			t.Error(start, "was changed")
		}
	}
	if _, _, err := wire.Unfixed(run(8, 1)[:3], 4); err != api.ErrEnd {
		t.Error("Unfixed reads behind the end", err)
	}
}

// TestMemoryOfRecords: P1.9, P0.4: what a caller writes shows neither in the records told next, nor in those told again.
func TestMemoryOfRecords(t *testing.T) {
	b := []byte{18, 2, 65, 66, 11, 8, 1, 12, 26, 0, 18, 1, 67}
	want := all(bytes.Clone(b))
	seq := wire.Records(b)
	spoil(b)
	for range 2 {
		var got []placed
		for at, r := range seq {
			got = append(got, placed{at, r})
		}
		samePlaced(t, got, want)
		for i := range got {
			spoil(got[i].r.B)
			samePlaced(t, got[i+1:], want[i+1:])
		}
	}
}

// TestRecordsSideBySide: P0.5: records gone over by several at once are the same for each.
func TestRecordsSideBySide(t *testing.T) {
	b := bytes.Repeat([]byte{8, 1, 11, 18, 1, 65, 12}, 50)
	seq := wire.Records(b)
	var group sync.WaitGroup
	counts := make([]int, 8)
	for i := range counts {
		group.Go(func() {
			for range seq {
				counts[i]++
			}
		})
	}
	group.Wait()
	for _, n := range counts {
		if n != 100 {
			t.Error("Records side by side", n)
		}
	}
}
