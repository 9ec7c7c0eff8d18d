package huff_test

import (
	"bytes"
	"encoding/hex"
	"math/rand"
	"strings"
	"testing"

	"parley/api"
	"parley/huff"
)

// packed is a text of 0 and 1 as bytes; what it lacks up to a whole byte are 1s.
func packed(bits string) []byte {
	bits += strings.Repeat("1", (8-len(bits)%8)%8)
	out := make([]byte, len(bits)/8)
	for i := range bits {
		out[i/8] = out[i/8]<<1 | (bits[i] - '0')
	}
	return out
}

// unpacked is bytes as a text of 0 and 1.
func unpacked(b []byte) string {
	out := make([]byte, 0, 8*len(b))
	for _, c := range b {
		for i := range 8 {
			out = append(out, '0'+c>>(7-i)&1)
		}
	}
	return string(out)
}

// coder says Encode and Decode in another way, with codes as texts of 0 and 1.
type coder struct {
	codes   []string
	symbols map[string]int
}

func newCoder() coder {
	c := coder{digits(), map[string]int{}}
	for symbol, text := range c.codes {
		c.symbols[text] = symbol
	}
	return c
}

func (c coder) bits(s string) string {
	var out strings.Builder
	for i := range len(s) {
		out.WriteString(c.codes[s[i]])
	}
	return out.String()
}

func (c coder) decode(b []byte) (string, error) {
	var out []byte
	bits := unpacked(b)
	from := 0
	for to := 5; to <= len(bits); to++ {
		symbol, ok := c.symbols[bits[from:to]]
		if !ok {
			continue
		}
		if symbol == end {
			return "", api.ErrHuff
		}
		out = append(out, byte(symbol))
		from = to
	}
	if rest := bits[from:]; len(rest) >= 8 || strings.Contains(rest, "0") {
		return "", api.ErrHuff
	}
	return string(out), nil
}

// check holds Decode of b against the other way of saying it, and, where it is taken, Encode against b.
func (c coder) check(t *testing.T, b []byte) bool {
	t.Helper()
	want, wantErr := c.decode(b)
	got, err := huff.Decode(b)
	if got != want || err != wantErr {
		t.Errorf("Decode(%v): %q, %v, not %q, %v", b, got, err, want, wantErr)
	}
	if err != nil {
		return false
	}
	if again := huff.Encode(got); !bytes.Equal(again, b) {
		t.Errorf("Encode of Decode(%v): %v", b, again)
	}
	return true
}

// texts are some texts, with every byte among them alone and beside others.
func texts() []string {
	all := make([]byte, 0, 256)
	for i := range 256 {
		all = append(all, byte(i))
	}
	out := []string{
		"", "0", "00", "www.example.com", "no-cache", "custom-value", "\x00", "\xff", "\n\r\x16", "/a/b?c=d&e=%20",
		"\u00e9\u4e16\U0001f600", "\xc3", "\xed\xa0\x80", string(all), strings.Repeat("\n", 33), strings.Repeat("0", 801),
	}
	for i := range all {
		one := string(all[i : i+1])
		out = append(out, one, one+"0", "0"+one, one+one+one, one+"\n"+one, strings.Repeat(one, 8))
	}
	return append(out, randomTexts(300)...)
}

func randomTexts(n int) []string {
	dice := rand.New(rand.NewSource(1))
	out := make([]string, n)
	for i := range out {
		b := make([]byte, dice.Intn(60))
		dice.Read(b)
		if i%2 == 0 { // letters have short codes, so that several end in a byte
			for j := range b {
				b[j] = ' ' + b[j]%95
			}
		}
		out[i] = string(b)
	}
	return out
}

// TestKnownTexts: P2.2, P2.3, the chapter's examples and those of RFC 7541's appendix C.
func TestKnownTexts(t *testing.T) {
	for s, want := range map[string]string{
		"":                              "",
		"0":                             "07",
		"www.example.com":               "f1e3c2e5f23a6ba0ab90f4ff",
		"no-cache":                      "a8eb10649cbf",
		"custom-key":                    "25a849e95ba97d7f",
		"custom-value":                  "25a849e95bb8e8b4bf",
		"302":                           "6402",
		"307":                           "640eff",
		"private":                       "aec3771a4b",
		"gzip":                          "9bd9ab",
		"https://www.example.com":       "9d29ad171863c78f0b97c8e9ae82ae43d3",
		"Mon, 21 Oct 2013 20:13:21 GMT": "d07abe941054d444a8200595040b8166e082a62d1bff",
		"foo=ASDJKHQKBZXOQWEOPIUAXQWEOIU; max-age=3600; version=1": "94e7821dd7f2e6c7b335dfdfcd5b3960d5af27087f3672c1ab270fb5291f9587316065c003ed4ee5b1063d5007",
	} {
		b := huff.Encode(s)
		if got := hex.EncodeToString(b); got != want {
			t.Errorf("Encode(%q): %s", s, got)
		}
		if n := huff.Size(s); n != len(want)/2 {
			t.Errorf("Size(%q): %d", s, n)
		}
		if got, err := huff.Decode(b); got != s || err != nil {
			t.Errorf("Decode(%s): %q, %v", want, got, err)
		}
	}
}

// TestEncode: P2.2, the codes one behind the other, and 1s behind the last one.
func TestEncode(t *testing.T) {
	c := newCoder()
	for _, s := range texts() {
		want := packed(c.bits(s))
		if got := huff.Encode(s); !bytes.Equal(got, want) {
			t.Errorf("Encode(%q): %v, not %v", s, got, want)
		}
		if n := huff.Size(s); n != len(want) {
			t.Errorf("Size(%q): %d, not %d", s, n, len(want))
		}
	}
}

// TestSizeOfLong: P2.2, P0.6, of a text whose bits a number of 32 bits cannot count.
func TestSizeOfLong(t *testing.T) {
	const n = 5 << 25
	if got := huff.Size(strings.Repeat("\n", n) + "0"); got != n/8*30+1 {
		t.Error("Size", got)
	}
}

// TestDecode: P2.3, what it takes and what not.
func TestDecode(t *testing.T) {
	for _, x := range []struct {
		b    []byte
		want string
		err  error
	}{
		{nil, "", nil},
		{[]byte{}, "", nil},
		{[]byte{7}, "0", nil},
		{[]byte{0x1f}, "a", nil},
		{[]byte{0xf8}, "&", nil},
		{[]byte{0x53}, " ", nil},
		{[]byte{0x00, 0x1f}, "009", nil},
		{[]byte{0x00, 0x1e}, "008", nil},
		{[]byte{0x00, 0x3f}, "00", nil},
		{[]byte{0x00, 0x3e}, "", api.ErrHuff},
		{[]byte{0}, "", api.ErrHuff},
		{[]byte{6}, "", api.ErrHuff},
		{[]byte{5}, "", api.ErrHuff},
		{[]byte{3}, "", api.ErrHuff},
		{[]byte{254}, "", api.ErrHuff},
		{[]byte{255}, "", api.ErrHuff},
		{[]byte{7, 255}, "", api.ErrHuff},
		{[]byte{255, 255}, "", api.ErrHuff},
		{[]byte{255, 255, 255}, "", api.ErrHuff},
		{[]byte{255, 255, 255, 255}, "", api.ErrHuff},
		{[]byte{255, 255, 255, 252}, "", api.ErrHuff},
		{[]byte{255, 255, 255, 251}, "\x16", nil},
		{[]byte{255, 255, 255, 250}, "", api.ErrHuff},
		{[]byte{255, 255, 255, 247}, "\r", nil},
		{[]byte{255, 255, 255, 243}, "\n", nil},
		{[]byte{255, 255, 255, 240}, "", api.ErrHuff},
		{[]byte{255, 255, 255, 255, 255, 255, 255, 255}, "", api.ErrHuff},
	} {
		if s, err := huff.Decode(x.b); s != x.want || err != x.err {
			t.Errorf("Decode(%v): %q, %v", x.b, s, err)
		}
	}
}

// TestFill: P2.3, behind each symbol each number of 1s, and of bits of which one is 0.
func TestFill(t *testing.T) {
	c := newCoder()
	for symbol, code := range c.codes[:end] {
		for whole := range 8 { // symbols ahead that make the code begin elsewhere in its byte
			bits := strings.Repeat(c.codes['0'], whole) + code
			short := (8 - len(bits)%8) % 8
			text := strings.Repeat("0", whole) + string([]byte{byte(symbol)})
			if s, err := huff.Decode(packed(bits)); s != text || err != nil {
				t.Errorf("Decode of %q filled: %q, %v", text, s, err)
			}
			for more := 8; more <= 32; more += 8 {
				if s, err := huff.Decode(packed(bits + strings.Repeat("1", short+more))); s != "" || err != api.ErrHuff {
					t.Errorf("Decode of %q and %d 1s: %q, %v", text, short+more, s, err)
				}
			}
			if short >= 5 { // with a 0 among them they may be a code
				continue
			}
			for zero := range short {
				fill := []byte(strings.Repeat("1", short))
				fill[zero] = '0'
				if s, err := huff.Decode(packed(bits + string(fill))); s != "" || err != api.ErrHuff {
					t.Errorf("Decode of %q and %s: %q, %v", text, fill, s, err)
				}
			}
		}
	}
}

// TestEndSymbol: P2.3, the code of 256, wherever it stands.
func TestEndSymbol(t *testing.T) {
	c := newCoder()
	for _, s := range texts() {
		for _, behind := range []string{"", "0", "\n", "www", "\xff"} {
			b := packed(c.bits(s) + c.codes[end] + c.bits(behind))
			if got, err := huff.Decode(b); got != "" || err != api.ErrHuff {
				t.Errorf("Decode with the end behind %q: %q, %v", s, got, err)
			}
		}
	}
}

// TestShortLists: P2.3, P2.5 at all lists of up to two bytes, and at those of three that begin with a long code.
func TestShortLists(t *testing.T) {
	c := newCoder()
	taken := 0
	count := func(b []byte) {
		if c.check(t, b) {
			taken++
		}
	}
	count(nil)
	for x := range 256 {
		count([]byte{byte(x)})
		for y := range 256 {
			count([]byte{byte(x), byte(y)})
			count([]byte{255, byte(x), byte(y)})
			count([]byte{255, 255, byte(x), byte(y)})
		}
	}
	if taken < 1000 {
		t.Error("texts among the short lists", taken)
	}
}

// TestAnyBytes: P0.1, P0.9: whatever is handed in, an answer, as the other way says it.
func TestAnyBytes(t *testing.T) {
	c := newCoder()
	dice := rand.New(rand.NewSource(2))
	for range 3000 {
		b := make([]byte, dice.Intn(40))
		dice.Read(b)
		c.check(t, b)
	}
	for _, s := range texts() { // and texts with a bit turned round
		b := huff.Encode(s)
		if len(b) > 0 {
			b[dice.Intn(len(b))] ^= 1 << dice.Intn(8)
			c.check(t, b)
		}
	}
}

// TestThereAndBack: P2.5, P0.8.
func TestThereAndBack(t *testing.T) {
	c := newCoder()
	for _, s := range texts() {
		b := huff.Encode(s)
		if got, err := huff.Decode(b); got != s || err != nil {
			t.Errorf("Decode of Encode(%q): %q, %v", s, got, err)
		}
		if !c.check(t, b) {
			t.Errorf("Encode(%q) is not taken", s)
		}
	}
}

// TestJoined: P2.6, two texts behind one another have the bits of both.
func TestJoined(t *testing.T) {
	c := newCoder()
	some := append(randomTexts(40), "", "0", "\n", "www.example.com", "\xff")
	for _, first := range some {
		for _, second := range some {
			want := (len(c.bits(first)) + len(c.bits(second)) + 7) / 8
			both := first + second
			if got := len(huff.Encode(both)); got != want || huff.Size(both) != want {
				t.Errorf("Encode(%q): %d bytes, Size %d, not %d", both, got, huff.Size(both), want)
			}
		}
	}
}
