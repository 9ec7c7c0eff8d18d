package hpack_test

import (
	"bytes"
	"math/rand"
	"slices"
	"strconv"
	"strings"
	"sync"
	"testing"

	"parley/api"
	"parley/hpack"
)

// ends are an encoder and the decoder that is told each of its blocks, with the model of the encoder's table.
type ends struct {
	e    *hpack.Encoder
	d    *hpack.Decoder
	want *writer
}

func newEnds(t *testing.T, limit int) ends {
	t.Helper()
	return ends{madeEncoder(t, limit), madeDecoder(t, limit), &writer{model: model{most: limit}}}
}

func (x ends) resize(t *testing.T, most int) {
	t.Helper()
	if err := x.e.Resize(most); err != nil {
		t.Errorf("Resize(%d) = %v", most, err)
	}
	x.want.resize(most)
}

// pass sends l from one end to the other one.
func (x ends) pass(t *testing.T, l []api.Header) []byte {
	t.Helper()
	b := x.e.Encode(l)
	x.want.encode(l)
	got, err := x.d.Decode(b)
	if !slices.Equal(got, l) || err != nil {
		t.Fatalf("Decode of Encode(%.200v) = %.200v, %v", l, got, err)
	}
	if x.d.Len() != len(x.want.list) {
		t.Fatalf("Encode(%.200v): Len = %d; want %d", l, x.d.Len(), len(x.want.list))
	}
	return b
}

// TestThereAndBack: P4.8, lists and sizes of all kinds in any order.
func TestThereAndBack(t *testing.T) {
	dice := rand.New(rand.NewSource(5))
	for range 300 {
		limit := dice.Intn(1 << dice.Intn(13))
		x := newEnds(t, limit)
		for range 20 {
			for dice.Intn(3) == 0 {
				x.resize(t, dice.Intn(limit+1))
			}
			x.pass(t, randomList(dice))
		}
	}
}

// TestThereAndBackAtTheEdges: P4.8, lists of MaxList bytes, full tables, texts of all bytes, sizes 0 and the limit.
func TestThereAndBackAtTheEdges(t *testing.T) {
	all := make([]byte, 256)
	for i := range all {
		all[i] = byte(i)
	}
	var smallest, full []api.Header
	for i := range 512 {
		smallest = append(smallest, api.Header{})
		full = append(full, api.Header{Name: strconv.Itoa(i % 200)})
	}
	lists := [][]api.Header{
		nil, smallest, full[:400],
		list(string(all), string(all)), list("", ""), list("", "", "", ""),
		list("a", strings.Repeat("\"", 16351)), list("a", strings.Repeat("0", 16351)), list(strings.Repeat("\xff", 16352), ""),
		{{Name: "a", Value: "b", Never: true}, {Name: "a", Value: "b"}, {Name: "a", Value: "b", Never: true}},
		list("a", strings.Repeat("v", 4063)), list("a", strings.Repeat("v", 4064)), list("a", "1"),
	}
	for _, limit := range []int{0, 31, 32, 33, 100, 4095, 4096} {
		x := newEnds(t, limit)
		for _, l := range lists {
			x.pass(t, l)
			x.pass(t, l)
			x.resize(t, 0)
			x.resize(t, limit)
			x.pass(t, l)
			x.resize(t, limit/2)
			x.pass(t, l)
			x.resize(t, limit)
		}
	}
}

// TestTooLargeForTheOther: P4.8 asks of no list above MaxList: the decoder says so.
func TestTooLargeForTheOther(t *testing.T) {
	e, d := madeEncoder(t, 4096), madeDecoder(t, 4096)
	faults(t, d, e.Encode(list("a", strings.Repeat("\"", 16352))), api.ErrList)
	e, d = madeEncoder(t, 4096), madeDecoder(t, 4096)
	faults(t, d, e.Encode(list("a", strings.Repeat("\"", 16385))), api.ErrLong)
}

// TestResizePastTheLimit: P4.8 asks of no such Resize: the decoder says so.
func TestResizePastTheLimit(t *testing.T) {
	e, d := madeEncoder(t, 100), madeDecoder(t, 100)
	_ = e.Resize(101)
	faults(t, d, e.Encode(nil), api.ErrTable)
	e, d = madeEncoder(t, 100), madeDecoder(t, 100)
	_ = e.Resize(101)
	_ = e.Resize(100) // nothing of the greater one is told
	decodes(t, d, e.Encode(list("a", "1")), list("a", "1"), 1)
}

// TestShort: P4.9, a byte a header, two where the index is above 126.
func TestShort(t *testing.T) {
	x := newEnds(t, 4096)
	var l []api.Header
	for i := range 100 {
		l = append(l, api.Header{Name: "n", Value: strconv.Itoa(100 + i)})
	}
	x.pass(t, l)
	var want []byte
	for i := range l {
		if index := 61 + 100 - i; index > 126 {
			want = append(want, 255, byte(index-127))
		} else {
			want = append(want, 128+byte(index))
		}
	}
	for range 3 {
		if b := x.pass(t, l); !bytes.Equal(b, want) {
			t.Errorf("once more: %v; want %v", b, want)
		}
	}
	dice := rand.New(rand.NewSource(6))
	for range 300 {
		x, l := newEnds(t, 4096), randomList(dice)
		l = slices.DeleteFunc(l, func(h api.Header) bool { return h.Never || len(h.Value) > 500 })
		x.pass(t, l)
		if b := x.pass(t, l); len(b) != len(l) { // so few that no index is above 126
			t.Errorf("%v once more: %v", l, b)
		}
	}
}

// TestApart: P0.5, ends know of no others, whoever else calls.
func TestApart(t *testing.T) {
	var group sync.WaitGroup
	for seed := range 8 {
		x := newEnds(t, 300)
		group.Go(func() {
			dice := rand.New(rand.NewSource(int64(seed)))
			for range 60 {
				l := randomList(dice)
				got, err := x.d.Decode(x.e.Encode(l))
				x.want.encode(l)
				if !slices.Equal(got, l) || err != nil || x.d.Len() != len(x.want.list) {
					t.Errorf("seed %d: %.200v, %v; want %.200v", seed, got, err, l)
					return
				}
			}
		})
	}
	group.Wait()
}
