package table_test

import (
	"math"
	"slices"
	"strconv"
	"strings"
	"testing"

	"parley/api"
	"parley/table"
)

// model is a table that moves, told by a list, the newest header first.
type model struct {
	list []api.Header
	most int
}

func (m *model) size() int {
	sum := 0
	for _, h := range m.list {
		sum += len(h.Name) + len(h.Value) + 32
	}
	return sum
}

func (m *model) add(h api.Header) {
	h.Never = false
	m.list = slices.Insert(m.list, 0, h)
	m.fit()
}

// fit lets the oldest go; with them goes the newest too, if it alone is too great.
func (m *model) fit() {
	for m.size() > m.most {
		m.list = m.list[:len(m.list)-1]
	}
}

func (m *model) resize(most int) {
	m.most = most
	m.fit()
}

// both are the headers of both tables: that of index i at i-1.
func (m *model) both() []api.Header {
	return append(standing(), m.list...)
}

func (m *model) find(name, value string) (int, bool) {
	both := m.both()
	i := slices.IndexFunc(both, func(h api.Header) bool { return h.Name == name && h.Value == value })
	if i >= 0 {
		return i + 1, true
	}
	return slices.IndexFunc(both, func(h api.Header) bool { return h.Name == name }) + 1, false
}

// hold asks m all that can be told of what it has, and names what is otherwise than in want.
func hold(t *testing.T, m *table.Table, want *model) {
	t.Helper()
	if m.Len() != len(want.list) || m.Size() != want.size() || m.Most() != want.most {
		t.Fatalf("Len, Size, Most = %d, %d, %d; want %d, %d, %d", m.Len(), m.Size(), m.Most(), len(want.list), want.size(), want.most)
	}
	both := want.both()
	for i, h := range both {
		if got, ok := m.Get(i + 1); got != h || !ok {
			t.Fatalf("Get(%d) = %v, %v; want %v, true", i+1, got, ok, h)
		}
	}
	for _, i := range append(noIndexes(), len(both)+1, len(both)+2, len(both)+128) {
		if i > 0 && i <= len(both) {
			continue
		}
		if got, ok := m.Get(i); got != (api.Header{}) || ok {
			t.Fatalf("Get(%d) of %d = %v, %v; want none, false", i, len(both), got, ok)
		}
	}
	if got := gone(m); !slices.Equal(got, want.list) {
		t.Fatalf("Each: %v; want %v", got, want.list)
	}
}

// gone is what Each yields; nil, if one has another index than its place says.
func gone(m *table.Table) []api.Header {
	out := []api.Header{}
	for i, h := range m.Each() {
		if i != 62+len(out) {
			return nil
		}
		out = append(out, h)
	}
	return out
}

// made is New(most), which must be.
func made(t *testing.T, most int) *table.Table {
	t.Helper()
	m, err := table.New(most)
	if m == nil || err != nil {
		t.Fatalf("New(%d) = %v, %v", most, m, err)
	}
	return m
}

// noMosts are numbers that no table may have as its most.
func noMosts() []int {
	return []int{-1, -2, -4096, api.MaxTable + 1, api.MaxTable + 2, 1 << 16, math.MaxInt32, math.MinInt32, math.MaxInt, math.MinInt, 1 << 40, -(1 << 40)}
}

// TestNew: P3.2, an empty table of that most.
func TestNew(t *testing.T) {
	for _, most := range []int{0, 1, 31, 32, 33, 70, 4095, api.MaxTable} {
		hold(t, made(t, most), &model{most: most})
	}
}

// TestNewOfNone: P3.2, a most below 0 or above MaxTable; no table stands beside the error.
func TestNewOfNone(t *testing.T) {
	for _, most := range noMosts() {
		if m, err := table.New(most); m != nil || err != api.ErrTable {
			t.Errorf("New(%d) = %v, %v; want nil, ErrTable", most, m, err)
		}
	}
}

// TestExamples: P3.3, P3.4, the chapter's examples.
func TestExamples(t *testing.T) {
	m := made(t, 70)
	want := &model{most: 70}
	for _, h := range []api.Header{{Name: "a", Value: "1"}, {Name: "b", Value: "2"}, {Name: "c", Value: "3"}} {
		m.Add(h)
		want.add(h)
	}
	hold(t, m, want)
	if m.Len() != 2 || m.Size() != 68 {
		t.Errorf("Len, Size = %d, %d; want 2, 68", m.Len(), m.Size())
	}
	if h, ok := m.Get(62); h != (api.Header{Name: "c", Value: "3"}) || !ok {
		t.Errorf("Get(62) = %v, %v", h, ok)
	}
	if h, ok := m.Get(63); h != (api.Header{Name: "b", Value: "2"}) || !ok {
		t.Errorf("Get(63) = %v, %v", h, ok)
	}
	for _, c := range []struct {
		name, value string
		i           int
		ok          bool
	}{{":method", "GET", 2, true}, {":method", "PUT", 2, false}, {"b", "9", 63, false}, {"z", "", 0, false}} {
		if i, ok := m.Find(c.name, c.value); i != c.i || ok != c.ok {
			t.Errorf("Find(%s, %s) = %d, %v; want %d, %v", c.name, c.value, i, ok, c.i, c.ok)
		}
	}
	m.Add(api.Header{Name: strings.Repeat("n", 40)})
	hold(t, m, &model{most: 70})
}

// TestAddAtTheEdge: P3.3: what has Most bytes is taken, and all else goes; what has one more isn't, and all goes.
func TestAddAtTheEdge(t *testing.T) {
	for _, most := range []int{32, 33, 64, 65, 100, api.MaxTable} {
		for over := -2; over <= 2; over++ {
			size := most + over
			if size < 32 {
				continue
			}
			m, want := made(t, most), &model{most: most}
			for _, h := range []api.Header{{Name: "a"}, {}, {Value: strings.Repeat("v", size-32)}} {
				m.Add(h)
				want.add(h)
				hold(t, m, want)
			}
			if taken := m.Len() > 0; taken != (over <= 0) {
				t.Errorf("most %d, size %d: taken is %v", most, size, taken)
			}
		}
	}
}

// TestAddLetsGoNoMoreThanItMust: P3.3, one header more or less goes by a single byte.
func TestAddLetsGoNoMoreThanItMust(t *testing.T) {
	for length := range 140 {
		m, want := made(t, 200), &model{most: 200}
		for i := range 5 {
			h := api.Header{Name: strconv.Itoa(i), Value: strings.Repeat("v", i)}
			m.Add(h)
			want.add(h)
		}
		h := api.Header{Name: strings.Repeat("n", length)}
		m.Add(h)
		want.add(h)
		hold(t, m, want)
	}
}

// TestAddToNothing: P3.3, a table of most 0 to 31 takes no header, the empty one neither.
func TestAddToNothing(t *testing.T) {
	for most := range 32 {
		m := made(t, most)
		m.Add(api.Header{})
		m.Add(api.Header{Name: "a", Value: "b", Never: true})
		hold(t, m, &model{most: most})
	}
}

// TestAddKeepsNoNever: P3.3, a header is kept as one that isn't Never.
func TestAddKeepsNoNever(t *testing.T) {
	m := made(t, api.MaxTable)
	m.Add(api.Header{Name: "a", Value: "b", Never: true})
	hold(t, m, &model{list: []api.Header{{Name: "a", Value: "b"}}, most: api.MaxTable})
	if i, ok := m.Find("a", "b"); i != 62 || !ok {
		t.Errorf("Find = %d, %v; want 62, true", i, ok)
	}
}

// TestAddOfTheSame: P3.3, one that is there already is added as any other is, one of the table that stands too.
func TestAddOfTheSame(t *testing.T) {
	m, want := made(t, 200), &model{most: 200}
	for range 9 {
		for _, h := range []api.Header{{Name: "a", Value: "b"}, {Name: ":method", Value: "GET"}, {Name: "a", Value: "b"}} {
			m.Add(h)
			want.add(h)
			hold(t, m, want)
		}
	}
}

// TestAddOfItsOwn: P3.3, what the table itself told is added though it must go for that.
func TestAddOfItsOwn(t *testing.T) {
	m, want := made(t, 105), &model{most: 105}
	for i := range 3 {
		h := api.Header{Name: "n" + strconv.Itoa(i), Value: "v"}
		m.Add(h)
		want.add(h)
	}
	for range 7 {
		h, _ := m.Get(64)
		m.Add(h)
		want.add(h)
		hold(t, m, want)
	}
}

// TestFull: P3.3, the largest table, full of the smallest headers, again and again.
func TestFull(t *testing.T) {
	m, want := made(t, api.MaxTable), &model{most: api.MaxTable}
	for i := range 400 {
		h := api.Header{}
		if i%7 == 0 && i > 300 {
			h.Value = strconv.Itoa(i)
		}
		m.Add(h)
		want.add(h)
		hold(t, m, want)
		if i == 127 && m.Len() != 128 {
			t.Errorf("Len = %d; want 128", m.Len())
		}
	}
}

// TestResize: P3.3, from each most to each other one.
func TestResize(t *testing.T) {
	mosts := []int{0, 31, 32, 33, 65, 66, 67, 100, 1000, api.MaxTable}
	for _, from := range mosts {
		for _, to := range mosts {
			m, want := made(t, from), &model{most: from}
			for i := range 140 {
				h := api.Header{Name: strconv.Itoa(i % 10)}
				m.Add(h)
				want.add(h)
			}
			for _, most := range []int{to, to, from, to} {
				if err := m.Resize(most); err != nil {
					t.Errorf("Resize(%d) = %v", most, err)
				}
				want.resize(most)
				hold(t, m, want)
				m.Add(api.Header{Value: "w"})
				want.add(api.Header{Value: "w"})
				hold(t, m, want)
			}
		}
	}
}

// TestResizeToNone: P3.3, P0.2: a most below 0 or above MaxTable changes nothing.
func TestResizeToNone(t *testing.T) {
	m, want := made(t, 100), &model{most: 100}
	for range 2 {
		m.Add(api.Header{Name: "a", Value: "b"})
		want.add(api.Header{Name: "a", Value: "b"})
	}
	for _, most := range noMosts() {
		if err := m.Resize(most); err != api.ErrTable {
			t.Errorf("Resize(%d) = %v; want ErrTable", most, err)
		}
		hold(t, m, want)
	}
}
