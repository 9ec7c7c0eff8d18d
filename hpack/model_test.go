package hpack_test

import (
	"math/rand"
	"slices"
	"strconv"
	"strings"
	"testing"

	"parley/api"
	"parley/hpack"
	"parley/table"
)

// model is both tables, told by a list, the newest header first: another way to say chapter 3.
type model struct {
	list []api.Header
	most int
}

func (m *model) resize(most int) {
	m.most = most
	for hpack.Size(m.list) > most {
		m.list = m.list[:len(m.list)-1]
	}
}

func (m *model) add(h api.Header) {
	h.Never = false
	m.list = slices.Insert(slices.Clone(m.list), 0, h)
	m.resize(m.most)
}

// both are the headers of both tables: that of index i at i-1.
func (m *model) both() []api.Header {
	var out []api.Header
	for i := 1; i <= 61; i++ {
		h, _ := table.Static(i)
		out = append(out, h)
	}
	return append(out, m.list...)
}

func (m *model) find(h api.Header) (int, bool) {
	both := m.both()
	if i := slices.Index(both, api.Header{Name: h.Name, Value: h.Value}); i >= 0 {
		return i + 1, true
	}
	return slices.IndexFunc(both, func(o api.Header) bool { return o.Name == h.Name }) + 1, false
}

// writer is what an encoder must do: another way to say P4.4 and P4.5.
type writer struct {
	model
	sizes []int // asked for since the last block
}

func (w *writer) resize(most int) {
	w.model.resize(most)
	w.sizes = append(w.sizes, most)
}

func (w *writer) encode(l []api.Header) []byte {
	var out []byte
	if len(w.sizes) > 0 {
		least, last := slices.Min(w.sizes), w.sizes[len(w.sizes)-1]
		if least != last {
			out = append(out, putNumber(32, 5, least)...)
		}
		out = append(out, putNumber(32, 5, last)...)
	}
	w.sizes = nil
	for _, h := range l {
		i, whole := w.find(h)
		if whole && !h.Never {
			out = append(out, putNumber(128, 7, i)...)
			continue
		}
		if h.Never {
			out = append(out, putNumber(16, 4, i)...)
		} else if hpack.Size([]api.Header{h}) > w.most {
			out = append(out, putNumber(0, 4, i)...)
		} else {
			out = append(out, putNumber(64, 6, i)...)
			w.add(h)
		}
		if i == 0 {
			out = append(out, putText(h.Name)...)
		}
		out = append(out, putText(h.Value)...)
	}
	return out
}

// reader is what a decoder must do: another way to say P4.4 and P4.6.
type reader struct {
	model
	limit int
	gone  bool
}

func newReader(limit int) *reader {
	return &reader{model: model{most: limit}, limit: limit}
}

func (r *reader) decode(b []byte) ([]api.Header, error) {
	if r.gone {
		return nil, api.ErrGone
	}
	was := r.model
	var out []api.Header
	for len(b) > 0 {
		h, n, err := r.one(b, len(out) > 0)
		if err == nil && n > 0 && h != nil && hpack.Size(out)+hpack.Size(h) > 16384 {
			err = api.ErrList
		}
		if err != nil {
			r.gone, r.model = true, was
			return nil, err
		}
		out = append(out, h...)
		b = b[n:]
	}
	return out, nil
}

// one is the header that b begins with, or none, if that is a size; and how many bytes it has.
func (r *reader) one(b []byte, behind bool) ([]api.Header, int, error) {
	switch c := b[0]; {
	case c >= 128:
		i, n, err := readNumber(b, 7)
		if err == nil && (i == 0 || i > 61+len(r.list)) {
			err = api.ErrIndex
		}
		if err != nil {
			return nil, 0, err
		}
		return []api.Header{r.both()[i-1]}, n, nil
	case c >= 64:
		h, n, err := r.named(b, 6)
		if err == nil {
			r.add(h)
		}
		return []api.Header{h}, n, err
	case c >= 32:
		most, n, err := readNumber(b, 5)
		if err == nil && (behind || most > r.limit) {
			err = api.ErrTable
		}
		if err == nil {
			r.resize(most)
		}
		return nil, n, err
	default:
		h, n, err := r.named(b, 4)
		h.Never = c >= 16
		return []api.Header{h}, n, err
	}
}

func (r *reader) named(b []byte, bits int) (api.Header, int, error) {
	i, at, err := readNumber(b, bits)
	if err != nil {
		return api.Header{}, 0, err
	}
	if i > 61+len(r.list) {
		return api.Header{}, 0, api.ErrIndex
	}
	var h api.Header
	if i > 0 {
		h.Name = r.both()[i-1].Name
	} else {
		name, n, err := readText(b[at:])
		if err != nil {
			return api.Header{}, 0, err
		}
		h.Name, at = name, at+n
	}
	value, n, err := readText(b[at:])
	h.Value = value
	return h, at + n, err
}

// randomHeader is one of few names and values, so that they come again; of all sizes, a few beyond every table.
func randomHeader(dice *rand.Rand) api.Header {
	h := api.Header{Name: strconv.Itoa(dice.Intn(8)), Value: strconv.Itoa(dice.Intn(3)), Never: dice.Intn(8) == 0}
	switch dice.Intn(10) {
	case 0:
		h.Value = strings.Repeat("v", dice.Intn(1<<dice.Intn(9)))
	case 1, 2:
		h, _ = table.Static(1 + dice.Intn(61))
	case 3:
		h, _ = table.Static(1 + dice.Intn(61))
		h.Value, h.Never = "w", dice.Intn(2) == 0
	case 4:
		h.Name = ""
	case 5:
		h.Value = strings.Repeat("\"#\xff", dice.Intn(20))
	}
	return h
}

func randomList(dice *rand.Rand) []api.Header {
	var out []api.Header
	for range dice.Intn(8) {
		out = append(out, randomHeader(dice))
	}
	if dice.Intn(60) == 0 {
		out = append(out, api.Header{Name: "long", Value: strings.Repeat("v", 3900+dice.Intn(400))})
	}
	return out
}

// madeEncoder is NewEncoder(most), which must be.
func madeEncoder(t *testing.T, most int) *hpack.Encoder {
	t.Helper()
	e, err := hpack.NewEncoder(most)
	if e == nil || err != nil {
		t.Fatalf("NewEncoder(%d) = %v, %v", most, e, err)
	}
	return e
}

// madeDecoder is NewDecoder(limit), which must be.
func madeDecoder(t *testing.T, limit int) *hpack.Decoder {
	t.Helper()
	d, err := hpack.NewDecoder(limit)
	if d == nil || err != nil {
		t.Fatalf("NewDecoder(%d) = %v, %v", limit, d, err)
	}
	return d
}

// list is headers of names and values, one behind the other.
func list(texts ...string) []api.Header {
	var out []api.Header
	for i := 0; i < len(texts); i += 2 {
		out = append(out, api.Header{Name: texts[i], Value: texts[i+1]})
	}
	return out
}

// noSizes are numbers that no table may have as its most.
func noSizes() []int {
	return []int{-1, -2, -4096, api.MaxTable + 1, api.MaxTable + 2, 1 << 16, 1 << 31, 1 << 32, -(1 << 40), 1<<63 - 1, -1 << 63}
}
