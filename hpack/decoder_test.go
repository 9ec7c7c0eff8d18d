package hpack_test

import (
	"bytes"
	"math/rand"
	"slices"
	"strings"
	"testing"

	"parley/api"
	"parley/hpack"
)

// decodes holds d's answer for b against the list, and then Len.
func decodes(t *testing.T, d *hpack.Decoder, b []byte, want []api.Header, held int) {
	t.Helper()
	if l, err := d.Decode(b); !slices.Equal(l, want) || err != nil {
		t.Errorf("Decode(%.40v) = %.200v, %v; want %.200v", b, l, err, want)
	}
	if d.Len() != held {
		t.Errorf("Decode(%.40v): Len = %d; want %d", b, d.Len(), held)
	}
}

// faults holds d to the error, to ErrGone behind it, and to as many headers as there were.
func faults(t *testing.T, d *hpack.Decoder, b []byte, want error) {
	t.Helper()
	held := d.Len()
	if l, err := d.Decode(b); l != nil || err != want {
		t.Errorf("Decode(%.40v) = %.200v, %v; want %v", b, l, err, want)
	}
	for _, b := range [][]byte{nil, {}, {130}, {128}, b} {
		if l, err := d.Decode(b); l != nil || err != api.ErrGone {
			t.Errorf("Decode(%.40v) behind a fault = %.200v, %v; want ErrGone", b, l, err)
		}
	}
	if d.Len() != held {
		t.Errorf("Decode(%.40v): Len = %d; want %d, as ahead of the fault", b, d.Len(), held)
	}
}

// TestDecodeExamples: P4.6, the chapter's examples.
func TestDecodeExamples(t *testing.T) {
	d := madeDecoder(t, 4096)
	decodes(t, d, []byte{130}, list(":method", "GET"), 0)
	faults(t, d, []byte{128}, api.ErrIndex)
	decodes(t, madeDecoder(t, 4096), []byte{63, 225, 31}, nil, 0)
	faults(t, madeDecoder(t, 4096), []byte{63, 226, 31}, api.ErrTable)
	faults(t, madeDecoder(t, 4096), []byte{130, 32}, api.ErrTable)
	decodes(t, madeDecoder(t, 4096), []byte{16, 1, 97, 1, 98}, []api.Header{{Name: "a", Value: "b", Never: true}}, 0)
}

// TestDecodeRequests: P4.6, RFC 7541's appendices C.2 to C.4.
func TestDecodeRequests(t *testing.T) {
	for digits, want := range map[string][]api.Header{
		"400a 6375 7374 6f6d 2d6b 6579 0d63 7573 746f 6d2d 6865 6164 6572": list("custom-key", "custom-header"),
		"040c 2f73 616d 706c 652f 7061 7468":                               list(":path", "/sample/path"),
		"1008 7061 7373 776f 7264 0673 6563 7265 74":                       {{Name: "password", Value: "secret", Never: true}},
		"82": list(":method", "GET"),
	} {
		held := 0
		if digits[0] == '4' {
			held = 1
		}
		decodes(t, madeDecoder(t, 4096), unhex(t, digits), want, held)
	}
	lists, coded := requests(t)
	asTheyAre := [][]byte{
		unhex(t, "8286 8441 0f77 7777 2e65 7861 6d70 6c65 2e63 6f6d"),
		unhex(t, "8286 84be 5808 6e6f 2d63 6163 6865"),
		unhex(t, "8287 85bf 400a 6375 7374 6f6d 2d6b 6579 0c63 7573 746f 6d2d 7661 6c75 65"),
	}
	for _, blocks := range [][][]byte{coded, asTheyAre} {
		d := madeDecoder(t, 4096)
		for i, b := range blocks {
			decodes(t, d, b, lists[i], i+1)
		}
	}
}

// TestDecodeAnswers: P4.6, RFC 7541's appendix C.6, where headers go for others.
func TestDecodeAnswers(t *testing.T) {
	d := madeDecoder(t, 256)
	where := "https://www.example.com"
	decodes(t, d, unhex(t, "4882 6402 5885 aec3 771a 4b61 96d0 7abe 9410 54d4 44a8 2005 9504 0b81 66e0 82a6 2d1b ff6e 919d 29ad 1718 63c7 8f0b 97c8 e9ae 82ae 43d3"),
		list(":status", "302", "cache-control", "private", "date", "Mon, 21 Oct 2013 20:13:21 GMT", "location", where), 4)
	decodes(t, d, unhex(t, "4883 640e ffc1 c0bf"),
		list(":status", "307", "cache-control", "private", "date", "Mon, 21 Oct 2013 20:13:21 GMT", "location", where), 4)
	decodes(t, d, unhex(t, "88c1 6196 d07a be94 1054 d444 a820 0595 040b 8166 e084 a62d 1bff c05a 839b d9ab 77ad 94e7 821d d7f2 e6c7 b335 dfdf cd5b 3960 d5af 2708 7f36 72c1 ab27 0fb5 291f 9587 3160 65c0 03ed 4ee5 b106 3d50 07"),
		list(":status", "200", "cache-control", "private", "date", "Mon, 21 Oct 2013 20:13:22 GMT", "location", where,
			"content-encoding", "gzip", "set-cookie", "foo=ASDJKHQKBZXOQWEOPIUAXQWEOIU; max-age=3600; version=1"), 3)
}

// TestDecodeForms: P4.3, P4.6, each form of a header, on a decoder of 100 bytes which knows a 1 and a 2, the newest.
func TestDecodeForms(t *testing.T) {
	big := strings.Repeat("\"", 69)
	for name, x := range map[string]struct {
		b    []byte
		want api.Header
		held int
	}{
		"indexed, the first":                   {[]byte{129}, api.Header{Name: ":authority"}, 2},
		"indexed, the last that stands":        {[]byte{189}, api.Header{Name: "www-authenticate"}, 2},
		"indexed, the newest":                  {[]byte{190}, api.Header{Name: "a", Value: "2"}, 2},
		"indexed, the oldest":                  {[]byte{191}, api.Header{Name: "a", Value: "1"}, 2},
		"added, by a name that stands":         {[]byte{66, 1, 'X'}, api.Header{Name: ":method", Value: "X"}, 2},
		"added, by a name that moves":          {[]byte{127, 0, 1, 'X'}, api.Header{Name: "a", Value: "X"}, 2},
		"added, a new name":                    {[]byte{64, 1, 'b', 1, '1'}, api.Header{Name: "b", Value: "1"}, 2},
		"added, with nothing at all":           {[]byte{64, 0, 0}, api.Header{}, 3},
		"added, though it is there":            {[]byte{64, 1, 'a', 1, '1'}, api.Header{Name: "a", Value: "1"}, 2},
		"added, larger than the table":         {append([]byte{64, 0, 69}, big...), api.Header{Value: big}, 0},
		"added, by the name of one that goes":  {append([]byte{127, 0, 67}, big[:67]...), api.Header{Name: "a", Value: big[:67]}, 1},
		"not added, by a name that stands":     {[]byte{15, 45, 1, 'X'}, api.Header{Name: "via", Value: "X"}, 2},
		"not added, by a name that moves":      {[]byte{15, 48, 1, 'X'}, api.Header{Name: "a", Value: "X"}, 2},
		"not added, a new name":                {[]byte{0, 1, 'b', 1, '1'}, api.Header{Name: "b", Value: "1"}, 2},
		"not added, larger than the table":     {append([]byte{0, 0, 69}, big...), api.Header{Value: big}, 2},
		"Never, by a name that stands":         {[]byte{31, 45, 1, 'X'}, api.Header{Name: "via", Value: "X", Never: true}, 2},
		"Never, by a name that moves":          {[]byte{31, 47, 1, 'X'}, api.Header{Name: "a", Value: "X", Never: true}, 2},
		"Never, a new name":                    {[]byte{16, 1, 'b', 1, '1'}, api.Header{Name: "b", Value: "1", Never: true}, 2},
		"an index with more bytes than needed": {[]byte{127, 128, 0, 1, 'X'}, api.Header{Name: "a", Value: "X"}, 2},
		"texts in their codes":                 {[]byte{16, 129, 7, 129, 7}, api.Header{Name: "0", Value: "0", Never: true}, 2},
	} {
		d := madeDecoder(t, 100)
		decodes(t, d, []byte{64, 1, 'a', 1, '1', 64, 1, 'a', 1, '2'}, list("a", "1", "a", "2"), 2)
		if l, err := d.Decode(x.b); !slices.Equal(l, []api.Header{x.want}) || err != nil || d.Len() != x.held {
			t.Errorf("%s: %v, %v, Len %d; want %v, Len %d", name, l, err, d.Len(), x.want, x.held)
		}
	}
}

// TestDecodeKeepsNoNever: P4.6, one that was added is not Never, nor is a header of its index.
func TestDecodeKeepsNoNever(t *testing.T) {
	d := madeDecoder(t, 4096)
	decodes(t, d, []byte{16, 1, 'a', 1, 'b', 64, 1, 'a', 1, 'b', 190, 31, 47, 1, 'b', 190},
		[]api.Header{{Name: "a", Value: "b", Never: true}, {Name: "a", Value: "b"}, {Name: "a", Value: "b"}, {Name: "a", Value: "b", Never: true}, {Name: "a", Value: "b"}}, 1)
}

// TestDecodeSizes: P4.3, P4.6, sizes ahead of all headers, as many as there are, up to the limit.
func TestDecodeSizes(t *testing.T) {
	for _, limit := range []int{0, 1, 31, 32, 100, 4095, 4096} {
		decodes(t, madeDecoder(t, limit), putNumber(32, 5, limit), nil, 0)
		faults(t, madeDecoder(t, limit), putNumber(32, 5, limit+1), api.ErrTable)
		faults(t, madeDecoder(t, limit), putNumber(32, 5, greatest), api.ErrTable)
		d := madeDecoder(t, limit)
		decodes(t, d, []byte{32, 32}, nil, 0) // a size below it doesn't lower the limit
		decodes(t, d, append(putNumber(32, 5, limit), 32, 32), nil, 0)
		decodes(t, d, append(putNumber(32, 5, limit), 130), list(":method", "GET"), 0)
		faults(t, d, append([]byte{32}, putNumber(32, 5, limit+1)...), api.ErrTable)
	}
	d := madeDecoder(t, 4096)
	decodes(t, d, []byte{64, 1, 'a', 1, '1', 64, 1, 'b', 1, '2'}, list("a", "1", "b", "2"), 2)
	decodes(t, d, []byte{63, 36, 63, 225, 31, 190}, list("b", "2"), 1) // a goes for a size of 67
	faults(t, d, []byte{191}, api.ErrIndex)
}

// TestDecodeStays: P4.6, a size holds for the blocks behind, too.
func TestDecodeStays(t *testing.T) {
	d := madeDecoder(t, 4096)
	decodes(t, d, []byte{63, 3}, nil, 0) // 34
	decodes(t, d, []byte{64, 1, 'a', 1, '1', 64, 1, 'b', 1, '2'}, list("a", "1", "b", "2"), 1)
	decodes(t, d, nil, nil, 1)
	decodes(t, d, []byte{64, 1, 'a', 2, '1', '1'}, list("a", "11"), 0)
}

// TestDecodeFaults: P4.6, each error, and which goes first.
func TestDecodeFaults(t *testing.T) {
	tooLong := []byte{128, 128, 128, 128, 128}
	for name, x := range map[string]struct {
		b   []byte
		err error
	}{
		"index 0":                               {[]byte{128}, api.ErrIndex},
		"an index behind the last one":          {[]byte{190}, api.ErrIndex},
		"a great index":                         {[]byte{255, 128, 255, 255, 255, 7}, api.ErrIndex},
		"an index without end":                  {[]byte{255}, api.ErrEnd},
		"an index without end, of more bytes":   {[]byte{255, 128, 128, 128, 128}, api.ErrEnd},
		"an index too long":                     {append([]byte{255}, tooLong...), api.ErrLong},
		"an index too great":                    {[]byte{255, 129, 255, 255, 255, 7}, api.ErrLong},
		"added, a name's index without end":     {[]byte{127, 128}, api.ErrEnd},
		"added, a name's index too long":        {append([]byte{127}, tooLong...), api.ErrLong},
		"added, no such name":                   {[]byte{126, 1, 'X'}, api.ErrIndex},
		"added, no such name, no value":         {[]byte{126}, api.ErrIndex},
		"added, no such name, a wrong value":    {[]byte{126, 129, 0}, api.ErrIndex},
		"not added, a name's index without end": {[]byte{15}, api.ErrEnd},
		"not added, a name's index too long":    {append([]byte{15}, tooLong...), api.ErrLong},
		"not added, no such name":               {[]byte{15, 47, 1, 'X'}, api.ErrIndex},
		"not added, no such name, no value":     {[]byte{15, 47}, api.ErrIndex},
		"Never, a name's index without end":     {[]byte{31, 255}, api.ErrEnd},
		"Never, a name's index too long":        {append([]byte{31}, tooLong...), api.ErrLong},
		"Never, no such name":                   {[]byte{31, 47, 1, 'X'}, api.ErrIndex},
		"Never, no such name, a great one":      {[]byte{31, 240, 255, 255, 255, 7}, api.ErrIndex},
		"no name":                               {[]byte{64}, api.ErrEnd},
		"a name not all there":                  {[]byte{0, 2, 'a'}, api.ErrEnd},
		"a name too long":                       {append([]byte{64}, long(0, 16385, 'a', 0)...), api.ErrLong},
		"a name that is no code":                {[]byte{16, 129, 0}, api.ErrHuff},
		"a name that is no code, no value":      {[]byte{64, 129, 255}, api.ErrHuff},
		"no value":                              {[]byte{64, 1, 'a'}, api.ErrEnd},
		"no value behind an index":              {[]byte{66}, api.ErrEnd},
		"a value not all there":                 {[]byte{66, 3, 'a', 'b'}, api.ErrEnd},
		"a value too long":                      {append([]byte{66}, long(128, 16385, 'a', 20000)...), api.ErrLong},
		"a value that is no code":               {[]byte{66, 130, 255, 255}, api.ErrHuff},
		"a size above the limit":                {[]byte{63, 226, 31}, api.ErrTable},
		"a size without end":                    {[]byte{63, 226}, api.ErrEnd},
		"a size too long":                       {append([]byte{63}, tooLong...), api.ErrLong},
		"a size too great":                      {[]byte{63, 225, 255, 255, 255, 7}, api.ErrLong},
		"a size behind an indexed one":          {[]byte{130, 32}, api.ErrTable},
		"a size behind one that is added":       {[]byte{64, 0, 0, 63, 225, 31}, api.ErrTable},
		"a size behind one that isn't added":    {[]byte{0, 0, 0, 33}, api.ErrTable},
		"a size behind one that is Never":       {[]byte{16, 0, 0, 33}, api.ErrTable},
		"a size behind a size and a header":     {[]byte{32, 130, 32}, api.ErrTable},
		"a size without end behind a header":    {[]byte{130, 63, 128}, api.ErrEnd},
		"a size too long behind a header":       {append([]byte{130, 63}, tooLong...), api.ErrLong},
		"a fault ahead of another one":          {[]byte{128, 63, 226, 31}, api.ErrIndex},
		"a fault behind what may be":            {[]byte{130, 64, 1, 'a', 1, 'b', 190, 191}, api.ErrIndex},
		"one that isn't added has no index":     {[]byte{0, 1, 97, 1, 98, 190}, api.ErrIndex},
		"one that is Never has no index":        {[]byte{16, 1, 97, 1, 98, 190}, api.ErrIndex},
		"one that went for a size has no index": {[]byte{32, 64, 1, 97, 1, 98, 190}, api.ErrIndex},
		"a name that went has no index":         {[]byte{63, 3, 64, 1, 97, 1, 98, 64, 1, 98, 2, 98, 98, 126, 0}, api.ErrIndex},
		"a list too large, but not all there":   {append(bytes.Repeat([]byte{130}, 390), 66), api.ErrEnd},
	} {
		d := madeDecoder(t, 4096)
		t.Run(name, func(t *testing.T) { faults(t, d, x.b, x.err) })
	}
}

// TestDecodeListAtMaxList: P4.6, a list of MaxList bytes is taken, one of one more isn't, whichever header it is that is too much.
func TestDecodeListAtMaxList(t *testing.T) {
	fill := func(n int) []byte { // a header of n bytes that isn't added
		return append([]byte{0, 0}, long(0, n-32, '"', n-32)...)
	}
	for name, last := range map[string]struct {
		b    []byte
		size int
	}{
		"indexed":   {[]byte{130}, 42},
		"added":     {[]byte{64, 1, 'a', 1, 'b'}, 34},
		"not added": {[]byte{0, 1, 'a', 1, 'b'}, 34},
		"Never":     {[]byte{16, 1, 'a', 1, 'b'}, 34},
		"empty":     {[]byte{0, 0, 0}, 32},
	} {
		for over := -1; over <= 1; over++ {
			b := append(fill(16384-last.size+over), last.b...)
			d := madeDecoder(t, 4096)
			if over > 0 {
				faults(t, d, b, api.ErrList)
				faults(t, madeDecoder(t, 4096), append(b, 128), api.ErrList) // told ahead of what stands behind
				continue
			}
			if l, err := d.Decode(b); len(l) != 2 || hpack.Size(l) != 16384+over || err != nil {
				t.Errorf("%s: %d headers of %d bytes, %v", name, len(l), hpack.Size(l), err)
			}
			if l, err := d.Decode(b); len(l) != 2 || err != nil { // each list by itself
				t.Errorf("%s again: %d headers, %v", name, len(l), err)
			}
		}
	}
	decodes(t, madeDecoder(t, 4096), fill(16384), []api.Header{{Value: strings.Repeat("\"", 16352)}}, 0)
	faults(t, madeDecoder(t, 4096), fill(16385), api.ErrList)
	faults(t, madeDecoder(t, 4096), append([]byte{0, 0}, hpack.PutText(nil, strings.Repeat("0", 26000))...), api.ErrList)
}

// TestDecodeGrows: P4.6, P0.11: few bytes that say a large list again and again are not read to their end.
func TestDecodeGrows(t *testing.T) {
	d := madeDecoder(t, 4096)
	large := append([]byte{64, 0}, long(0, 4064, '"', 4064)...)
	if l, err := d.Decode(append(large, 190, 190, 190)); len(l) != 4 || hpack.Size(l) != 16384 || err != nil || d.Len() != 1 {
		t.Errorf("%d headers, %v, Len %d", len(l), err, d.Len())
	}
	faults(t, d, bytes.Repeat([]byte{190}, 1<<20), api.ErrList)
}

// TestLenBesideAFault: P4.6, P0.2: a block with a fault changes nothing, but that no other one is taken.
func TestLenBesideAFault(t *testing.T) {
	for _, b := range [][]byte{
		{128},
		{64, 1, 'c', 1, '3', 128},
		{32, 64, 1, 'c', 1, '3', 128},
		{32, 63, 226, 31},
		append([]byte{32}, bytes.Repeat([]byte{130}, 400)...),
	} {
		d := madeDecoder(t, 4096)
		decodes(t, d, []byte{64, 1, 'a', 1, '1', 64, 1, 'b', 1, '2'}, list("a", "1", "b", "2"), 2)
		if _, err := d.Decode(b); err == nil {
			t.Errorf("Decode(%.20v) has no error", b)
		}
		if d.Len() != 2 {
			t.Errorf("Decode(%.20v): Len = %d; want 2", b, d.Len())
		}
	}
}

// randomBlock is made of pieces that mostly may be, and then often spoilt.
func randomBlock(dice *rand.Rand) []byte {
	var b []byte
	if dice.Intn(4) == 0 {
		b = append(b, putNumber(32, 5, dice.Intn(300))...)
	}
	for range dice.Intn(8) {
		index := dice.Intn(66)
		switch dice.Intn(5) {
		case 0:
			b = append(b, putNumber(128, 7, 1+index)...)
			continue
		case 1:
			b = append(b, putNumber(0, 4, index)...)
		case 2:
			b = append(b, putNumber(16, 4, index)...)
		default:
			b = append(b, putNumber(64, 6, index)...)
		}
		if index == 0 {
			b = append(b, putText(randomHeader(dice).Name)...)
		}
		b = append(b, putText(randomHeader(dice).Value)...)
	}
	if len(b) == 0 {
		return b
	}
	switch dice.Intn(8) {
	case 0:
		b[dice.Intn(len(b))] ^= 1 << dice.Intn(8)
	case 1:
		b = b[:dice.Intn(len(b))]
	case 2:
		b[dice.Intn(len(b))] = 255
	case 3:
		dice.Read(b)
	case 4:
		b = append(b[:dice.Intn(len(b))], bytes.Repeat([]byte{255}, 6)...)
	}
	return b
}

// TestDecodeAnyBlocks: P4.6, P0.9, blocks of all kinds, one after the other, against the other way.
func TestDecodeAnyBlocks(t *testing.T) {
	dice := rand.New(rand.NewSource(4))
	told := map[error]int{}
	for range 4000 {
		limit := dice.Intn(1 << dice.Intn(13))
		d, want := madeDecoder(t, limit), newReader(limit)
		for range 12 {
			b := randomBlock(dice)
			l, err := d.Decode(b)
			wantL, wantErr := want.decode(b)
			if !slices.Equal(l, wantL) || err != wantErr || d.Len() != len(want.list) {
				t.Fatalf("Decode(%v) = %v, %v, Len %d; want %v, %v, Len %d", b, l, err, d.Len(), wantL, wantErr, len(want.list))
			}
			told[err]++
		}
	}
	for _, err := range []error{nil, api.ErrEnd, api.ErrLong, api.ErrHuff, api.ErrIndex, api.ErrTable, api.ErrGone} {
		if told[err] < 20 {
			t.Errorf("%v was told %d times", err, told[err])
		}
	}
}

// TestDecodeAllShortBlocks: P4.6, P0.9, every block of up to two bytes, and of three that begin as each kind does.
func TestDecodeAllShortBlocks(t *testing.T) {
	check := func(b ...byte) {
		d, want := madeDecoder(t, 40), newReader(40)
		l, err := d.Decode(b)
		wantL, wantErr := want.decode(b)
		if !slices.Equal(l, wantL) || err != wantErr || d.Len() != len(want.list) {
			t.Errorf("Decode(%v) = %v, %v, Len %d; want %v, %v, Len %d", b, l, err, d.Len(), wantL, wantErr, len(want.list))
		}
	}
	for c := range 256 {
		check(byte(c))
		for d := range 256 {
			check(byte(c), byte(d))
			check(66, byte(c), byte(d))
			check(4, byte(c), byte(d))
		}
	}
}
