package hpack_test

import (
	"bytes"
	"encoding/hex"
	"math/rand"
	"strings"
	"testing"

	"parley/api"
	"parley/hpack"
)

// unhex are the bytes that these hexadecimal digits say, blanks left out.
func unhex(t *testing.T, s string) []byte {
	t.Helper()
	b, err := hex.DecodeString(strings.ReplaceAll(s, " ", ""))
	if err != nil {
		t.Fatal(err)
	}
	return b
}

// requests are the lists of RFC 7541's appendix C.4, and their blocks.
func requests(t *testing.T) ([][]api.Header, [][]byte) {
	return [][]api.Header{
		list(":method", "GET", ":scheme", "http", ":path", "/", ":authority", "www.example.com"),
		list(":method", "GET", ":scheme", "http", ":path", "/", ":authority", "www.example.com", "cache-control", "no-cache"),
		list(":method", "GET", ":scheme", "https", ":path", "/index.html", ":authority", "www.example.com", "custom-key", "custom-value"),
	}, [][]byte{
		unhex(t, "8286 8441 8cf1 e3c2 e5f2 3a6b a0ab 90f4 ff"),
		unhex(t, "8286 84be 5886 a8eb 1064 9cbf"),
		unhex(t, "8287 85bf 4088 25a8 49e9 5ba9 7d7f 8925 a849 e95b b8e8 b4bf"),
	}
}

// TestNewOfNone: P4.4, ErrTable, and nothing beside.
func TestNewOfNone(t *testing.T) {
	for _, n := range noSizes() {
		if e, err := hpack.NewEncoder(n); e != nil || err != api.ErrTable {
			t.Errorf("NewEncoder(%d) = %v, %v; want nil, ErrTable", n, e, err)
		}
		if d, err := hpack.NewDecoder(n); d != nil || err != api.ErrTable {
			t.Errorf("NewDecoder(%d) = %v, %v; want nil, ErrTable", n, d, err)
		}
	}
}

// TestEncodeExamples: P4.5, the chapter's example and RFC 7541's.
func TestEncodeExamples(t *testing.T) {
	e := madeEncoder(t, 4096)
	l := list(":method", "GET", ":path", "/", ":authority", "www.example.com")
	first := append([]byte{130, 132, 65}, putText("www.example.com")...)
	for _, want := range [][]byte{first, {130, 132, 190}, {130, 132, 190}} {
		if b := e.Encode(l); !bytes.Equal(b, want) {
			t.Errorf("Encode = %v; want %v", b, want)
		}
	}
	e = madeEncoder(t, 4096)
	lists, blocks := requests(t)
	for i, l := range lists {
		if b := e.Encode(l); !bytes.Equal(b, blocks[i]) {
			t.Errorf("Encode = %x; want %x", b, blocks[i])
		}
	}
}

// TestEncodeForms: P4.3, P4.5, each form a header may have, on an encoder of 100 bytes which knows a 1 and a 2, the newest.
func TestEncodeForms(t *testing.T) {
	big := strings.Repeat("\"", 68)
	for name, x := range map[string]struct {
		h    api.Header
		want []byte
	}{
		"indexed, of the table that stands":    {api.Header{Name: ":method", Value: "POST"}, []byte{131}},
		"indexed, of the table that moves":     {api.Header{Name: "a", Value: "1"}, []byte{191}},
		"indexed, with an empty value":         {api.Header{Name: "via"}, []byte{188}},
		"added, a name that stands":            {api.Header{Name: ":method", Value: "X"}, []byte{66, 1, 'X'}},
		"added, a name that moves":             {api.Header{Name: "a", Value: "3"}, []byte{126, 1, '3'}},
		"added, a new name":                    {api.Header{Name: "b", Value: "1"}, []byte{64, 1, 'b', 1, '1'}},
		"added, an empty name":                 {api.Header{Value: "1"}, []byte{64, 0, 1, '1'}},
		"added, as large as the table":         {api.Header{Value: big}, append([]byte{64, 0, 68}, big...)},
		"not added, larger than the table":     {api.Header{Name: "\"", Value: big}, append([]byte{0, 1, '"', 68}, big...)},
		"not added, a name that stands":        {api.Header{Name: "via", Value: big}, append([]byte{15, 45, 68}, big...)},
		"not added, a name that moves":         {api.Header{Name: "a", Value: big}, append([]byte{15, 47, 68}, big...)},
		"Never, a new name":                    {api.Header{Name: "b", Value: "1", Never: true}, []byte{16, 1, 'b', 1, '1'}},
		"Never, a name that stands":            {api.Header{Name: "via", Value: "X", Never: true}, []byte{31, 45, 1, 'X'}},
		"Never, larger than the table":         {api.Header{Name: "via", Value: big, Never: true}, append([]byte{31, 45, 68}, big...)},
		"Never, which stands":                  {api.Header{Name: ":method", Value: "GET", Never: true}, append([]byte{18}, putText("GET")...)},
		"Never, which moves, the newest":       {api.Header{Name: "a", Value: "2", Never: true}, []byte{31, 47, 1, '2'}},
		"Never, which stands, not first":       {api.Header{Name: ":method", Value: "POST", Never: true}, append([]byte{19}, putText("POST")...)},
		"Never, of index 14 in a single byte":  {api.Header{Name: ":status", Value: "500", Never: true}, append([]byte{30}, putText("500")...)},
		"Never, of index 15 in two bytes":      {api.Header{Name: "accept-charset", Never: true}, []byte{31, 0, 0}},
		"added, a name whose value stands not": {api.Header{Name: "accept-encoding"}, []byte{80, 0}},
	} {
		e := madeEncoder(t, 100)
		e.Encode(list("a", "1", "a", "2"))
		if b := e.Encode([]api.Header{x.h}); !bytes.Equal(b, x.want) {
			t.Errorf("%s: %v; want %v", name, b, x.want)
		}
	}
}

// TestEncodeKeeps: P4.5, what is added is known behind; what is Never, or too large, is not, and lets nothing go.
func TestEncodeKeeps(t *testing.T) {
	e := madeEncoder(t, 100)
	secret := api.Header{Name: "s", Value: "1", Never: true}
	large := api.Header{Name: "l", Value: strings.Repeat("\"", 68)}
	e.Encode(list("a", "1"))
	for range 2 {
		if b := e.Encode([]api.Header{secret}); !bytes.Equal(b, []byte{16, 1, 's', 1, '1'}) {
			t.Errorf("Never: %v", b)
		}
		if b := e.Encode([]api.Header{large}); !bytes.Equal(b[:4], []byte{0, 1, 'l', 68}) {
			t.Errorf("too large: %v", b)
		}
		if b := e.Encode(list("a", "1")); !bytes.Equal(b, []byte{190}) {
			t.Errorf("a 1: %v", b)
		}
	}
	if b := e.Encode(list("a", "1", "s", "1", "a", "1", "s", "1")); !bytes.Equal(b, []byte{190, 64, 1, 's', 1, '1', 191, 190}) {
		t.Errorf("within a list: %v", b)
	}
}

// TestEncodeOfNone: P4.5, a list of no header, of an encoder of any size.
func TestEncodeOfNone(t *testing.T) {
	for _, most := range []int{0, 1, 4096} {
		e := madeEncoder(t, most)
		for _, l := range [][]api.Header{nil, {}} {
			if b := e.Encode(l); len(b) != 0 {
				t.Errorf("Encode of none = %v", b)
			}
		}
	}
}

// TestEncodeOfNoTable: P4.4, P4.5, with a size of 0 to 31 nothing is added.
func TestEncodeOfNoTable(t *testing.T) {
	for most := range 32 {
		e := madeEncoder(t, most)
		for range 2 {
			if b := e.Encode(list("a", "1", ":method", "GET", "", "")); !bytes.Equal(b, []byte{0, 1, 'a', 1, '1', 130, 0, 0, 0}) {
				t.Errorf("most %d: %v", most, b)
			}
		}
	}
}

// TestResizeTells: P4.4, the least size, if it is below the last one, then the last one, once, ahead of the list.
func TestResizeTells(t *testing.T) {
	for _, x := range []struct {
		sizes []int
		want  []byte
	}{
		{[]int{200, 40, 100}, []byte{63, 9, 63, 69}},
		{[]int{100, 40}, []byte{63, 9}},
		{[]int{40, 100}, []byte{63, 9, 63, 69}},
		{[]int{40, 100, 40}, []byte{63, 9}},
		{[]int{100, 40, 40}, []byte{63, 9}},
		{[]int{0}, []byte{32}},
		{[]int{0, 4096}, []byte{32, 63, 225, 31}},
		{[]int{4096}, []byte{63, 225, 31}},
		{[]int{4096, 4096}, []byte{63, 225, 31}},
		{[]int{30, 31, 32}, []byte{62, 63, 1}},
		{[]int{5, 4, 3, 2, 1, 0, 1}, []byte{32, 33}},
	} {
		e := madeEncoder(t, 4096)
		for _, n := range x.sizes {
			if err := e.Resize(n); err != nil {
				t.Errorf("Resize(%d) = %v", n, err)
			}
		}
		want := append(bytes.Clone(x.want), 130)
		if b := e.Encode(list(":method", "GET")); !bytes.Equal(b, want) {
			t.Errorf("sizes %v: %v; want %v", x.sizes, b, want)
		}
		if b := e.Encode(list(":method", "GET")); !bytes.Equal(b, []byte{130}) {
			t.Errorf("sizes %v, the block behind: %v", x.sizes, b)
		}
	}
}

// TestResizeTellsInAnEmptyBlock: P4.4, the next block, whatever list it is of; of those asked for behind it nothing stays.
func TestResizeTellsInAnEmptyBlock(t *testing.T) {
	e := madeEncoder(t, 4096)
	_ = e.Resize(10)
	_ = e.Resize(20)
	if b := e.Encode(nil); !bytes.Equal(b, []byte{42, 52}) {
		t.Errorf("Encode = %v; want 42 52", b)
	}
	_ = e.Resize(30)
	if b := e.Encode(nil); !bytes.Equal(b, []byte{62}) {
		t.Errorf("Encode = %v; want 62", b)
	}
	if b := e.Encode(nil); len(b) != 0 {
		t.Errorf("Encode = %v; want none", b)
	}
}

// TestResizeAtOnce: P4.4, what goes for the least size is gone, though the last one has room for it.
func TestResizeAtOnce(t *testing.T) {
	e := madeEncoder(t, 4096)
	e.Encode(list("a", "1", "b", "2"))
	_ = e.Resize(67) // a goes
	_ = e.Resize(4096)
	if b := e.Encode(list("b", "2", "a", "1")); !bytes.Equal(b, []byte{63, 36, 63, 225, 31, 190, 64, 1, 'a', 1, '1'}) {
		t.Errorf("Encode = %v", b)
	}
	_ = e.Resize(34)
	if b := e.Encode(list("a", "1", "a", "11")); !bytes.Equal(b, []byte{63, 3, 190, 15, 47, 2, '1', '1'}) {
		t.Errorf("Encode = %v", b)
	}
}

// TestResizeToNone: P4.4, P0.2: ErrTable changes nothing, and is told by no block.
func TestResizeToNone(t *testing.T) {
	e := madeEncoder(t, 100)
	e.Encode(list("a", "1"))
	for _, n := range noSizes() {
		if err := e.Resize(n); err != api.ErrTable {
			t.Errorf("Resize(%d) = %v; want ErrTable", n, err)
		}
		if b := e.Encode(list("a", "1")); !bytes.Equal(b, []byte{190}) {
			t.Errorf("Encode behind Resize(%d) = %v", n, b)
		}
	}
	_ = e.Resize(90)
	for _, n := range noSizes() {
		_ = e.Resize(n)
	}
	if b := e.Encode(list("a", "1")); !bytes.Equal(b, []byte{63, 59, 190}) {
		t.Errorf("Encode = %v; want 63 59 190", b)
	}
}

// TestResizeUp: P4.4, above the most that the encoder was made with, too.
func TestResizeUp(t *testing.T) {
	e := madeEncoder(t, 0)
	if err := e.Resize(4096); err != nil {
		t.Errorf("Resize = %v", err)
	}
	if b := e.Encode(list("a", "1", "a", "1")); !bytes.Equal(b, []byte{63, 225, 31, 64, 1, 'a', 1, '1', 190}) {
		t.Errorf("Encode = %v", b)
	}
}

// TestEncodeAnyLists: P4.4, P4.5, lists and sizes in any order, against the other way.
func TestEncodeAnyLists(t *testing.T) {
	dice := rand.New(rand.NewSource(3))
	for range 300 {
		most := dice.Intn(1 << dice.Intn(13))
		e, want := madeEncoder(t, most), &writer{model: model{most: most}}
		for range 20 {
			for dice.Intn(3) == 0 {
				most := dice.Intn(1 << dice.Intn(13))
				_ = e.Resize(most)
				want.resize(most)
			}
			l := randomList(dice)
			b, wantB := e.Encode(l), want.encode(l)
			if !bytes.Equal(b, wantB) {
				t.Fatalf("Encode(%.200v) = %.200v; want %.200v", l, b, wantB)
			}
		}
	}
}
