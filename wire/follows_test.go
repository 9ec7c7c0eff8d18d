package wire_test

import (
	"bytes"
	"errors"
	"math/rand"
	"slices"
	"testing"

	"parley/api"
	"parley/wire"
)

// TestNumbersThereAndBack: P1.10, for numbers and tags, whatever stands behind.
func TestNumbersThereAndBack(t *testing.T) {
	for _, u := range edges() {
		for _, behind := range [][]byte{nil, {0}, run(12, 255)} {
			b := append(wire.Varint(nil, u), behind...)
			if got, n, err := wire.Uvarint(b); got != u || n != len(b)-len(behind) || err != nil {
				t.Error("Uvarint of Varint", u, got, n, err)
			}
			for size, mask := range map[int]uint64{4: 1<<32 - 1, 8: 1<<64 - 1} {
				b := append(wire.Fixed(nil, u, size), behind...)
				if got, n, err := wire.Unfixed(b, size); got != u&mask || n != size || err != nil {
					t.Error("Unfixed of Fixed", u, size, got, n, err)
				}
			}
		}
		if got := wire.Zag(wire.Zig(int64(u))); got != int64(u) {
			t.Error("Zag of Zig", int64(u), got)
		}
		if got := wire.Zig(wire.Zag(u)); got != u {
			t.Error("Zig of Zag", u, got)
		}
	}
	for _, field := range []int{1, 2, 15, 16, 2047, 2048, 1 << 28, api.MaxNumber - 1, api.MaxNumber} {
		for kind := api.WVarint; kind <= api.W32; kind++ {
			u, err := wire.Tag(field, kind)
			if err != nil {
				t.Error("Tag", field, kind, err)
			}
			if f, k, err := wire.Untag(u); f != field || k != kind || err != nil {
				t.Error("Untag of Tag", field, kind, f, k, err)
			}
		}
	}
}

// randomRecord is some record that Put takes, around which depth groups stand.
func randomRecord(dice *rand.Rand, depth int) wire.Record {
	kinds := []int{api.WVarint, api.W64, api.W32, api.WBytes, api.WGroup}
	r := wire.Record{Field: 1 + dice.Intn(api.MaxNumber)>>dice.Intn(29), Kind: kinds[dice.Intn(len(kinds))]}
	u := dice.Uint64() >> dice.Intn(64)
	switch r.Kind {
	case api.WVarint, api.W64:
		r.U = u
	case api.W32:
		r.U = u & (1<<32 - 1)
	case api.WBytes:
		r.B = make([]byte, dice.Intn(200))
		dice.Read(r.B)
	case api.WGroup:
		for depth < 4 && dice.Intn(3) > 0 {
			r.B, _ = wire.Put(r.B, randomRecord(dice, depth+1))
		}
	}
	return r
}

// TestRecordsThereAndBack: P1.10, for records: Next of Put, whatever stands behind, and Check of many.
func TestRecordsThereAndBack(t *testing.T) {
	dice := rand.New(rand.NewSource(1))
	for range 300 {
		var many []byte
		var put []placed
		for range dice.Intn(6) {
			r := randomRecord(dice, 0)
			b, err := wire.Put(nil, r)
			if err != nil {
				t.Fatal("Put", r, err)
			}
			behind := make([]byte, dice.Intn(20))
			dice.Read(behind)
			if got, n, err := wire.Next(join(b, behind)); !same(got, r) || n != len(b) || err != nil {
				t.Fatal("Next of Put", r, behind, got, n, err)
			}
			put = append(put, placed{len(many), r})
			if many, err = wire.Put(many, r); err != nil {
				t.Fatal("Put", r, err)
			}
		}
		if err := wire.Check(many); err != nil {
			t.Fatal("Check of Put", put, err)
		}
		samePlaced(t, all(many), put)
	}
}

// shortLists yields all lists of up to longest bytes of an alphabet in which most of what a record may be is at hand.
func shortLists(longest int, yield func([]byte)) {
	alphabet := []byte{0, 1, 2, 8, 10, 11, 12, 13, 19, 20, 128}
	list := make([]byte, 0, longest)
	var grow func()
	grow = func() {
		yield(list)
		if len(list) == longest {
			return
		}
		for _, c := range alphabet {
			list = append(list, c)
			grow()
			list = list[:len(list)-1]
		}
	}
	grow()
}

// plainNext is what Next answers of a list too short for deep groups, said in another way: with the open groups' fields in a list.
func plainNext(b []byte) (int, error) {
	var open []int
	at := 0
	number := func() (uint64, error) {
		u, n, err := wire.Uvarint(b[at:])
		at += n
		return u, err
	}
	for {
		u, err := number()
		if err != nil {
			return 0, err
		}
		field, kind, err := wire.Untag(u)
		if err != nil {
			return 0, err
		}
		need := uint64(0)
		switch kind {
		case api.WVarint:
			_, err = number()
		case api.WBytes:
			need, err = number()
		case api.W64:
			need = 8
		case api.W32:
			need = 4
		case api.WGroup:
			open = append(open, field)
		case api.WEnd:
			if len(open) == 0 || open[len(open)-1] != field {
				return 0, api.ErrGroup
			}
			open = open[:len(open)-1]
		}
		if err != nil {
			return 0, err
		}
		if uint64(len(b)-at) < need {
			return 0, api.ErrEnd
		}
		at += int(need)
		if len(open) == 0 {
			return at, nil
		}
	}
}

// TestShortLists: P1.5, P1.7, P1.11 at all short lists of bytes.
func TestShortLists(t *testing.T) {
	taken := 0
	shortLists(5, func(b []byte) {
		r, n, err := wire.Next(b)
		if want, wantErr := plainNext(b); n != want || err != wantErr {
			t.Error("Next", b, n, err, "not", want, wantErr)
		}
		checkWalk(t, b)
		if err != nil {
			return
		}
		taken++
		again, err := wire.Put(nil, r)
		if err != nil || len(again) > n {
			t.Error("Put of Next", b, again, err)
		}
		if r2, n2, err := wire.Next(again); !same(r2, r) || n2 != len(again) || err != nil {
			t.Error("Next of Put of Next", b, r2, n2, err)
		}
	})
	if taken < 1000 {
		t.Error("records among the short lists", taken)
	}
}

// checkWalk holds Check and Records of b against Next of its pieces.
func checkWalk(t *testing.T, b []byte) {
	t.Helper()
	var want []placed
	var err error
	at := 0
	for at < len(b) {
		var r wire.Record
		var n int
		if r, n, err = wire.Next(b[at:]); err != nil {
			break
		}
		want = append(want, placed{at, r})
		at += n
	}
	samePlaced(t, all(b), want)
	got := wire.Check(b)
	if at == len(b) {
		if got != nil {
			t.Error("Check", b, got)
		}
		return
	}
	place, ok := got.(*api.At)
	if !ok || *place != (api.At{Pos: at, Err: err}) || !errors.Is(got, err) {
		t.Error("Check", b, got)
	}
}

// TestJoined: P1.11: two lists that Check takes are together one, and one behind which a fault comes is none.
func TestJoined(t *testing.T) {
	var good [][]byte
	shortLists(3, func(b []byte) {
		if wire.Check(b) == nil {
			good = append(good, bytes.Clone(b))
		}
	})
	good = append(good, deep(api.MaxDepth), bytes.Repeat([]byte{18, 1, 12}, 9))
	for _, first := range good {
		for _, second := range good {
			both := join(first, second)
			if err := wire.Check(both); err != nil {
				t.Error("Check of both", first, second, err)
			}
			if got := len(all(both)); got != len(all(first))+len(all(second)) {
				t.Error("Records of both", first, second, got)
			}
		}
		at, ok := wire.Check(join(first, []byte{12})).(*api.At)
		if !ok || *at != (api.At{Pos: len(first), Err: api.ErrGroup}) {
			t.Error("Check with a fault behind", first, at)
		}
	}
	if len(good) < 20 || !slices.ContainsFunc(good, func(b []byte) bool { return len(b) == 0 }) {
		t.Error("too few good lists", len(good))
	}
}

// TestAnyBytes: P0.1, P0.9: whatever is handed in, there is an answer, the same each time.
func TestAnyBytes(t *testing.T) {
	dice := rand.New(rand.NewSource(2))
	for range 5000 {
		b := make([]byte, dice.Intn(60))
		dice.Read(b)
		if dice.Intn(2) == 0 { // small bytes are tags and lengths more often
			for i := range b {
				b[i] &= 31
			}
		}
		r, n, err := wire.Next(b)
		r2, n2, err2 := wire.Next(b)
		if !same(r, r2) || n != n2 || err != err2 {
			t.Fatal("Next", b, "differs")
		}
		checkWalk(t, b)
		if _, err := wire.Put(b, wire.Record{Field: 1, Kind: api.WGroup, B: b}); (err == nil) != (wire.Check(b) == nil) {
			t.Fatal("Put of a group", b, err)
		}
	}
}
