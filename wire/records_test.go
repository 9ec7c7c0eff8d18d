package wire_test

import (
	"bytes"
	"math"
	"testing"

	"parley/api"
	"parley/wire"
)

// deep is n groups in one another.
func deep(n int) []byte {
	return append(run(n, 11), run(n, 12)...)
}

// join is the pieces, one behind the other.
func join(pieces ...[]byte) []byte {
	return bytes.Join(pieces, nil)
}

func same(a, b wire.Record) bool {
	return a.Field == b.Field && a.Kind == b.Kind && a.U == b.U && bytes.Equal(a.B, b.B)
}

// TestNext: P1.5, what is a record.
func TestNext(t *testing.T) {
	for _, x := range []struct {
		b    []byte
		r    wire.Record
		size int
	}{
		{[]byte{8, 150, 1}, wire.Record{Field: 1, U: 150}, 3},
		{[]byte{8, 0, 9, 9}, wire.Record{Field: 1}, 2},
		{append([]byte{8}, run(9, 255, 1)...), wire.Record{Field: 1, U: math.MaxUint64}, 11},
		{[]byte{136, 128, 0, 129, 0}, wire.Record{Field: 1, U: 1}, 5},
		{[]byte{9, 1, 2, 3, 4, 5, 6, 7, 8, 9}, wire.Record{Field: 1, Kind: api.W64, U: 0x0807060504030201}, 9},
		{[]byte{13, 1, 2, 3, 255, 9}, wire.Record{Field: 1, Kind: api.W32, U: 0xff030201}, 5},
		{[]byte{253, 255, 255, 255, 15, 1, 0, 0, 0}, wire.Record{Field: api.MaxNumber, Kind: api.W32, U: 1}, 9},
		{[]byte{18, 2, 65, 66, 9}, wire.Record{Field: 2, Kind: api.WBytes, B: []byte("AB")}, 4},
		{[]byte{18, 0, 9}, wire.Record{Field: 2, Kind: api.WBytes}, 2},
		{[]byte{18, 130, 0, 65, 66}, wire.Record{Field: 2, Kind: api.WBytes, B: []byte("AB")}, 5},
		{[]byte{11, 12, 9}, wire.Record{Field: 1, Kind: api.WGroup}, 2},
		{[]byte{11, 8, 1, 12, 12}, wire.Record{Field: 1, Kind: api.WGroup, B: []byte{8, 1}}, 4},
		{[]byte{11, 19, 20, 18, 1, 12, 12}, wire.Record{Field: 1, Kind: api.WGroup, B: []byte{19, 20, 18, 1, 12}}, 7},
		{[]byte{11, 11, 12, 11, 12, 12}, wire.Record{Field: 1, Kind: api.WGroup, B: []byte{11, 12, 11, 12}}, 6},
		{[]byte{139, 0, 136, 0, 1, 140, 0, 8}, wire.Record{Field: 1, Kind: api.WGroup, B: []byte{136, 0, 1}}, 7},
		{deep(api.MaxDepth), wire.Record{Field: 1, Kind: api.WGroup, B: deep(api.MaxDepth - 1)}, 2 * api.MaxDepth},
	} {
		if r, n, err := wire.Next(x.b); !same(r, x.r) || n != x.size || err != nil {
			t.Error("Next", x.b, r, n, err)
		}
	}
}

// TestNextErrors: P1.5, what is none, and which error is met first.
func TestNextErrors(t *testing.T) {
	for _, x := range []struct {
		b   []byte
		err error
	}{
		{nil, api.ErrEnd},
		{[]byte{136}, api.ErrEnd},
		{run(10, 128), api.ErrLong},
		{run(9, 255, 2), api.ErrLong},
		{[]byte{0}, api.ErrTag},
		{[]byte{2, 1, 65}, api.ErrTag},
		{[]byte{14}, api.ErrTag},
		{[]byte{15, 1}, api.ErrTag},
		{[]byte{128, 128, 128, 128, 16}, api.ErrTag},
		{run(9, 255, 1), api.ErrTag},
		{[]byte{8}, api.ErrEnd},
		{[]byte{8, 128}, api.ErrEnd},
		{append([]byte{8}, run(10, 128)...), api.ErrLong},
		{[]byte{9, 1, 2, 3, 4, 5, 6, 7}, api.ErrEnd},
		{[]byte{13, 1, 2, 3}, api.ErrEnd},
		{[]byte{18}, api.ErrEnd},
		{[]byte{18, 129}, api.ErrEnd},
		{[]byte{18, 1}, api.ErrEnd},
		{[]byte{18, 3, 65, 66}, api.ErrEnd},
		{append([]byte{18}, run(9, 255, 1, 65)...), api.ErrEnd},
		{append([]byte{18}, run(8, 255, 127, 65)...), api.ErrEnd},
		{append([]byte{18}, run(9, 128, 1, 65)...), api.ErrEnd},
		{append([]byte{18}, run(9, 255, 2, 65)...), api.ErrLong},
		{[]byte{12}, api.ErrGroup},
		{[]byte{12, 8, 1}, api.ErrGroup},
		{[]byte{11}, api.ErrEnd},
		{[]byte{11, 8, 1}, api.ErrEnd},
		{[]byte{11, 8}, api.ErrEnd},
		{[]byte{11, 8, 1, 140}, api.ErrEnd},
		{[]byte{11, 18, 2, 12}, api.ErrEnd},
		{[]byte{11, 19, 12}, api.ErrGroup},
		{[]byte{11, 20}, api.ErrGroup},
		{[]byte{11, 20, 12}, api.ErrGroup},
		{[]byte{11, 19, 20}, api.ErrEnd},
		{[]byte{11, 6, 12}, api.ErrTag},
		{[]byte{11, 8, 1, 0, 12}, api.ErrTag},
		{[]byte{11, 6, 20}, api.ErrTag},
		{[]byte{11, 20, 6}, api.ErrGroup},
		{append([]byte{11, 8}, run(10, 255)...), api.ErrLong},
		{append([]byte{11}, run(10, 255)...), api.ErrLong},
		{append([]byte{11, 18}, run(10, 255)...), api.ErrLong},
	} {
		if r, n, err := wire.Next(x.b); !same(r, wire.Record{}) || n != 0 || err != x.err {
			t.Error("Next", x.b, r, n, err)
		}
	}
}

// TestNextDeep: P1.5, how many groups may stand in one another, and when one too many is met.
func TestNextDeep(t *testing.T) {
	beside := join([]byte{11}, bytes.Repeat([]byte{11, 12}, 3*api.MaxDepth), []byte{12})
	hidden := join([]byte{11, 18, 80}, deep(40), []byte{12})
	for _, x := range []struct {
		what string
		b    []byte
		err  error
	}{
		{"as many as may be", deep(api.MaxDepth), nil},
		{"one more", deep(api.MaxDepth + 1), api.ErrDeep},
		{"many more", deep(100000), api.ErrDeep},
		{"as many as may be, without an end", run(api.MaxDepth, 11), api.ErrEnd},
		{"one more, without an end", run(api.MaxDepth+1, 11), api.ErrDeep},
		{"one more, and no tag behind", run(api.MaxDepth+1, 11, 0), api.ErrDeep},
		{"one more behind no tag", join(run(api.MaxDepth, 11), []byte{0, 11}), api.ErrTag},
		{"one more behind another's end", join(run(api.MaxDepth, 11), []byte{20, 11}), api.ErrGroup},
		{"beside one another", beside, nil},
		{"in bytes", hidden, nil},
		{"one more, as deep as may be beside it", join(run(api.MaxDepth-1, 11), []byte{11, 12, 11, 11}), api.ErrDeep},
		{"of other fields", join(bytes.Repeat([]byte{11, 19}, 16), []byte{27}), api.ErrDeep},
	} {
		_, n, err := wire.Next(x.b)
		if err != x.err || err == nil && n != len(x.b) || err != nil && n != 0 {
			t.Error("Next", x.what, n, err)
		}
	}
}

// TestPut: P1.6, how a record is written.
func TestPut(t *testing.T) {
	both := []byte{65, 66}
	for _, x := range []struct {
		r    wire.Record
		want []byte
	}{
		{wire.Record{Field: 1, U: 150}, []byte{8, 150, 1}},
		{wire.Record{Field: 1, U: 150, B: both}, []byte{8, 150, 1}},
		{wire.Record{Field: 1}, []byte{8, 0}},
		{wire.Record{Field: 1, U: math.MaxUint64}, append([]byte{8}, run(9, 255, 1)...)},
		{wire.Record{Field: 2, Kind: api.W64, U: 1<<56 | 2, B: both}, []byte{17, 2, 0, 0, 0, 0, 0, 0, 1}},
		{wire.Record{Field: 3, Kind: api.W32, U: 1<<40 | 5, B: both}, []byte{29, 5, 0, 0, 0}},
		{wire.Record{Field: api.MaxNumber, Kind: api.W32}, []byte{253, 255, 255, 255, 15, 0, 0, 0, 0}},
		{wire.Record{Field: 2, Kind: api.WBytes, U: 77, B: both}, []byte{18, 2, 65, 66}},
		{wire.Record{Field: 2, Kind: api.WBytes}, []byte{18, 0}},
		{wire.Record{Field: 2, Kind: api.WBytes, B: run(200, 12)}, append([]byte{18, 200, 1}, run(200, 12)...)},
		{wire.Record{Field: 1, Kind: api.WGroup, U: 77}, []byte{11, 12}},
		{wire.Record{Field: 16, Kind: api.WGroup, B: []byte{8, 1}}, []byte{131, 1, 8, 1, 132, 1}},
		{wire.Record{Field: 1, Kind: api.WGroup, B: []byte{136, 0, 1}}, []byte{11, 136, 0, 1, 12}},
		{wire.Record{Field: 1, Kind: api.WGroup, B: deep(api.MaxDepth - 1)}, deep(api.MaxDepth)},
	} {
		if got, err := wire.Put(nil, x.r); !bytes.Equal(got, x.want) || err != nil {
			t.Error("Put", x.r, got, err)
		}
		if got, err := wire.Put([]byte{128, 7}, x.r); !bytes.Equal(got, append([]byte{128, 7}, x.want...)) || err != nil {
			t.Error("Put behind others", x.r, got, err)
		}
	}
}

// TestPutErrors: P1.6, what is no record; of its errors Tag's is named first.
func TestPutErrors(t *testing.T) {
	group := func(b ...byte) wire.Record { return wire.Record{Field: 1, Kind: api.WGroup, B: b} }
	for _, x := range []struct {
		r   wire.Record
		err error
	}{
		{wire.Record{}, api.ErrTag},
		{wire.Record{Field: -1}, api.ErrTag},
		{wire.Record{Field: api.MaxNumber + 1}, api.ErrTag},
		{wire.Record{Field: 1, Kind: 6}, api.ErrTag},
		{wire.Record{Field: 1, Kind: -1}, api.ErrTag},
		{wire.Record{Kind: api.WEnd}, api.ErrTag},
		{wire.Record{Kind: api.WGroup, B: []byte{8}}, api.ErrTag},
		{wire.Record{Field: 1, Kind: api.WEnd}, api.ErrGroup},
		{wire.Record{Field: 1, Kind: api.WEnd, B: []byte{8, 1}}, api.ErrGroup},
		{group(8), api.ErrGroup},
		{group(0), api.ErrGroup},
		{group(12), api.ErrGroup},
		{group(8, 1, 12), api.ErrGroup},
		{group(8, 1, 12, 11), api.ErrGroup},
		{group(11), api.ErrGroup},
		{group(run(10, 128)...), api.ErrGroup},
		{group(deep(api.MaxDepth)...), api.ErrGroup},
		{group(append([]byte{8, 1}, deep(api.MaxDepth)...)...), api.ErrGroup},
		{group(deep(api.MaxDepth + 1)...), api.ErrGroup},
	} {
		for _, b := range [][]byte{nil, {8, 1}} {
			if got, err := wire.Put(b, x.r); len(got) != 0 || err != x.err {
				t.Error("Put", x.r, got, err)
			}
		}
	}
}

// placed is a record with its place.
type placed struct {
	at int
	r  wire.Record
}

func all(b []byte) []placed {
	var out []placed
	for at, r := range wire.Records(b) {
		out = append(out, placed{at, r})
	}
	return out
}

func samePlaced(t *testing.T, got, want []placed) {
	t.Helper()
	if len(got) != len(want) {
		t.Error("Records", got)
		return
	}
	for i, p := range got {
		if p.at != want[i].at || !same(p.r, want[i].r) {
			t.Error("Records", i, p)
		}
	}
}

// TestRecords: P1.7, the records with their places, up to the first that has an error.
func TestRecords(t *testing.T) {
	good := []byte{8, 150, 1, 18, 2, 65, 66, 11, 16, 1, 12, 29, 1, 2, 3, 4}
	want := []placed{
		{0, wire.Record{Field: 1, U: 150}},
		{3, wire.Record{Field: 2, Kind: api.WBytes, B: []byte("AB")}},
		{7, wire.Record{Field: 1, Kind: api.WGroup, B: []byte{16, 1}}},
		{11, wire.Record{Field: 3, Kind: api.W32, U: 0x04030201}},
	}
	samePlaced(t, all(good), want)
	samePlaced(t, all(good[:15]), want[:3])
	samePlaced(t, all(append(good, 12, 8, 1)), want)
	samePlaced(t, all(nil), nil)
	samePlaced(t, all([]byte{0, 8, 1}), nil)
	samePlaced(t, all(deep(api.MaxDepth+1)), nil)
}

// TestRecordsAgain: P1.7, they may be gone over again and again, within one another too, and left early.
func TestRecordsAgain(t *testing.T) {
	seq := wire.Records([]byte{8, 1, 16, 2, 24, 3})
	for stop, want := range []int{3, 1, 2, 3} { // left after stop records, where there are as many; 0: not at all
		seen := 0
		for at, r := range seq {
			if at != 2*seen || !same(r, wire.Record{Field: seen + 1, U: uint64(seen + 1)}) {
				t.Error("Records", at, r)
			}
			seen++
			if seen == stop {
				break
			}
		}
		if seen != want {
			t.Error("Records left early", stop, seen)
		}
	}
	pairs := 0
	for range seq {
		for at := range seq {
			if at != pairs%3*2 {
				t.Error("Records within Records", at, pairs)
			}
			pairs++
		}
	}
	if pairs != 9 {
		t.Error("Records within Records", pairs)
	}
}

// TestCheck: P1.7, whether bytes are records and nothing else, and where the first one that is none begins.
func TestCheck(t *testing.T) {
	for _, b := range [][]byte{nil, {}, {8, 1}, {8, 1, 8, 1, 11, 12}, deep(api.MaxDepth), bytes.Repeat(deep(3), 40)} {
		if err := wire.Check(b); err != nil {
			t.Error("Check", b, err)
		}
	}
	for _, x := range []struct {
		b   []byte
		pos int
		err error
	}{
		{[]byte{8, 1, 8}, 2, api.ErrEnd},
		{[]byte{128}, 0, api.ErrEnd},
		{[]byte{8, 1, 18, 5, 65}, 2, api.ErrEnd},
		{[]byte{8, 1, 12}, 2, api.ErrGroup},
		{[]byte{8, 1, 11, 8, 1, 20, 12}, 2, api.ErrGroup},
		{[]byte{8, 1, 11, 12, 11, 8, 1}, 4, api.ErrEnd},
		{[]byte{8, 1, 11, 8, 1, 0, 12}, 2, api.ErrTag},
		{[]byte{8, 1, 0, 12}, 2, api.ErrTag},
		{append([]byte{8, 1, 16, 1}, run(10, 128)...), 4, api.ErrLong},
		{append([]byte{8, 1}, deep(api.MaxDepth+1)...), 2, api.ErrDeep},
		{append(deep(api.MaxDepth), deep(api.MaxDepth+1)...), 2 * api.MaxDepth, api.ErrDeep},
	} {
		at, ok := wire.Check(x.b).(*api.At)
		if !ok || *at != (api.At{Pos: x.pos, Err: x.err}) {
			t.Error("Check", x.b, at)
		}
	}
}
