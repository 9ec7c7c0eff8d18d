package hpack_test

import (
	"bytes"
	"math/rand"
	"strings"
	"testing"

	"parley/api"
	"parley/hpack"
	"parley/huff"
)

// putText is what stands behind b: another way to say P4.2.
func putText(s string) []byte {
	code := huff.Encode(s)
	if len(code) < len(s) {
		return append(putNumber(128, 7, len(code)), code...)
	}
	return append(putNumber(0, 7, len(s)), s...)
}

// readText is what Text answers.
func readText(b []byte) (string, int, error) {
	n, size, err := readNumber(b, 7)
	if err != nil {
		return "", 0, err
	}
	if n > 16384 {
		return "", 0, api.ErrLong
	}
	if size+n > len(b) {
		return "", 0, api.ErrEnd
	}
	raw := b[size : size+n]
	if b[0] < 128 {
		return string(raw), size + n, nil
	}
	s, err := huff.Decode(raw)
	if err != nil {
		return "", 0, err
	}
	return s, size + n, nil
}

// texts are short ones, and ones at the edges of their lengths' bytes and of MaxList; with short codes, with long ones, and with neither.
func texts() []string {
	out := []string{"", "0", "a", "\x00", "\"", "\"#", "X", "XX", "&&", "www.example.com", "no-cache", "302", "307", "\xff\xfe", "grün", ":method"}
	for _, one := range []string{"0", "X", "\"", "\xff", "a\xff"} {
		for _, n := range []int{2, 3, 7, 8, 126, 127, 128, 200, 254, 255, 256, 16383, 16384} {
			out = append(out, strings.Repeat(one, n/len(one)))
		}
	}
	return out
}

// TestPutText: P4.2, the code where it is shorter, else the text.
func TestPutText(t *testing.T) {
	for _, s := range texts() {
		for _, b := range [][]byte{nil, {9, 255}} {
			want := append(bytes.Clone(b), putText(s)...)
			if got := hpack.PutText(b, s); !bytes.Equal(got, want) {
				t.Errorf("PutText(%v, %.20q of %d) = %.40v; want %.40v", b, s, len(s), got, want)
			}
		}
	}
}

// TestPutTextExamples: P4.2, the chapter's examples; a code of as many bytes as the text is not taken.
func TestPutTextExamples(t *testing.T) {
	for s, want := range map[string][]byte{
		"www.example.com": {140, 241, 227, 194, 229, 242, 58, 107, 160, 171, 144, 244, 255},
		"":                {0},
		"\"#":             {2, 34, 35},
		"0":               {1, 48},
		"307":             {3, 51, 48, 55},
		"302":             {130, 100, 2},
		"no-cache":        {134, 168, 235, 16, 100, 156, 191},
	} {
		if got := hpack.PutText(nil, s); !bytes.Equal(got, want) {
			t.Errorf("PutText(none, %q) = %v; want %v", s, got, want)
		}
	}
}

// TestTextsThereAndBack: P4.2, P0.8, whatever stands behind, and of each beginning ErrEnd.
func TestTextsThereAndBack(t *testing.T) {
	for _, s := range texts() {
		b := hpack.PutText(nil, s)
		for _, behind := range [][]byte{nil, {0}, {255, 255}} {
			got, n, err := hpack.Text(append(bytes.Clone(b), behind...))
			if got != s || n != len(b) || err != nil {
				t.Errorf("Text of PutText(%.20q of %d): %.20q, %d, %v", s, len(s), got, n, err)
			}
		}
		for cut := 0; cut < len(b); cut += 1 + len(b)/50 {
			if got, n, err := hpack.Text(b[:cut]); got != "" || n != 0 || err != api.ErrEnd {
				t.Errorf("Text of %d bytes of PutText(%.20q): %.20q, %d, %v", cut, s, got, n, err)
			}
		}
	}
}

// long is a text's beginning that says that it has n bytes, and as many of them as there are said to be.
func long(first, n int, c byte, there int) []byte {
	return append(putNumber(first, 7, n), bytes.Repeat([]byte{c}, there)...)
}

// TestTextFaults: P4.2, each error, and which goes first.
func TestTextFaults(t *testing.T) {
	for name, x := range map[string]struct {
		b   []byte
		err error
	}{
		"no byte":                          {nil, api.ErrEnd},
		"a length without end":             {[]byte{127, 128}, api.ErrEnd},
		"a length too long":                {[]byte{127, 128, 128, 128, 128, 128}, api.ErrLong},
		"a length too great":               {[]byte{127, 129, 255, 255, 255, 7}, api.ErrLong},
		"a length that is the greatest":    {[]byte{127, 128, 255, 255, 255, 7}, api.ErrLong},
		"above MaxList, and not there":     {long(0, 16385, 'a', 0), api.ErrLong},
		"above MaxList, and there":         {long(0, 16385, 'a', 16385), api.ErrLong},
		"above MaxList, coded, and there":  {long(128, 16385, 0, 16385), api.ErrLong},
		"MaxList, and not all there":       {long(0, 16384, 'a', 16383), api.ErrEnd},
		"MaxList, coded, not all there":    {long(128, 16384, 255, 16383), api.ErrEnd},
		"one byte less than there must be": {[]byte{3, 65, 66}, api.ErrEnd},
		"no byte of some":                  {[]byte{1}, api.ErrEnd},
		"no code, and not all there":       {[]byte{130, 0}, api.ErrEnd},
		"no code: 0s at the end":           {[]byte{129, 0}, api.ErrHuff},
		"no code: eight 1s at the end":     {[]byte{129, 255}, api.ErrHuff},
		"no code: the symbol that ends":    {[]byte{132, 255, 255, 255, 255}, api.ErrHuff},
	} {
		if s, n, err := hpack.Text(x.b); s != "" || n != 0 || err != x.err {
			t.Errorf("%s: %.20q, %d, %v; want %v", name, s, n, err, x.err)
		}
	}
}

// TestTextAtMaxList: P4.2: what is counted are the bytes in b; a code of these may be of a longer text.
func TestTextAtMaxList(t *testing.T) {
	b := long(0, 16384, 'a', 16384)
	if s, n, err := hpack.Text(b); s != strings.Repeat("a", 16384) || n != len(b) || err != nil {
		t.Errorf("%.20q, %d, %v", s, n, err)
	}
	zeros := strings.Repeat("0", 16384*8/5) // five bits each
	b = hpack.PutText(nil, zeros)
	if s, n, err := hpack.Text(b); s != zeros || n != len(b) || err != nil {
		t.Errorf("%.20q, %d, %v", s, n, err)
	}
	b = hpack.PutText(nil, zeros+"00")
	if s, n, err := hpack.Text(b); s != "" || n != 0 || err != api.ErrLong {
		t.Errorf("%.20q, %d, %v; want ErrLong", s, n, err)
	}
}

// TestTextLongerThanItMust: P4.2: a length, and a code, are read though there is a shorter form.
func TestTextLongerThanItMust(t *testing.T) {
	for _, x := range []struct {
		b []byte
		s string
		n int
	}{
		{[]byte{3, 'w', 'w', 'w', 9}, "www", 4},
		{[]byte{129, 7}, "0", 2},
		{[]byte{128, 7}, "", 1},
		{append([]byte{127, 128, 0}, strings.Repeat("b", 127)...), strings.Repeat("b", 127), 130},
	} {
		if s, n, err := hpack.Text(x.b); s != x.s || n != x.n || err != nil {
			t.Errorf("Text(%v) = %q, %d, %v", x.b, s, n, err)
		}
	}
}

// TestTextOfAnyBytes: P4.2, P0.9.
func TestTextOfAnyBytes(t *testing.T) {
	check := func(b []byte) {
		s, n, err := hpack.Text(b)
		if wantS, wantN, wantErr := readText(b); s != wantS || n != wantN || err != wantErr {
			t.Errorf("Text(%v) = %q, %d, %v; want %q, %d, %v", b, s, n, err, wantS, wantN, wantErr)
		}
	}
	for c := range 256 {
		check([]byte{byte(c)})
		for d := range 256 {
			check([]byte{byte(c), byte(d)})
			check([]byte{129, byte(c), byte(d)})
			check([]byte{130, byte(c), byte(d)})
		}
	}
	dice := rand.New(rand.NewSource(2))
	for range 5000 {
		b := make([]byte, 1+dice.Intn(12))
		dice.Read(b)
		b[0] = b[0]&128 | byte(dice.Intn(12))
		check(b)
	}
}

// TestSize: P4.6, 32 more than the bytes of each header.
func TestSize(t *testing.T) {
	for _, x := range []struct {
		l    []api.Header
		want int
	}{
		{nil, 0},
		{[]api.Header{}, 0},
		{[]api.Header{{}}, 32},
		{[]api.Header{{Name: "a", Value: "bc", Never: true}}, 35},
		{[]api.Header{{Name: ":method", Value: "GET"}, {Name: ":path", Value: "/"}, {Name: ":authority", Value: "www.example.com"}}, 137},
		{[]api.Header{{Value: strings.Repeat("v", 20000)}, {Name: "a"}}, 20065},
	} {
		if got := hpack.Size(x.l); got != x.want {
			t.Errorf("Size(%.40v) = %d; want %d", x.l, got, x.want)
		}
	}
}
