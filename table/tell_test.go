package table_test

import (
	"slices"
	"strings"
	"testing"

	"parley/api"
	"parley/table"
)

// TestFind: P3.4, each name with each value, those that are nowhere too, in tables that have them and that have not.
func TestFind(t *testing.T) {
	m, want := made(t, 400), &model{most: 400}
	names := []string{"", "a", "A", "b", "ab", ":method", ":METHOD", ":status", ":path", "cookie", "accept", "accept-", "accept-encoding", "www-authenticate", "nowhere"}
	values := []string{"", "1", "2", "GET", "get", "200", "500", "501", "/", "/index.html", "gzip", "gzip, deflate", "nothing"}
	ask := func() {
		for _, name := range names {
			for _, value := range values {
				i, ok := m.Find(name, value)
				if wantAt, wantOk := want.find(name, value); i != wantAt || ok != wantOk {
					t.Errorf("Find(%q, %q) = %d, %v; want %d, %v", name, value, i, ok, wantAt, wantOk)
				}
			}
		}
	}
	ask()
	for round := range 4 {
		for n, name := range names[:14] {
			h := api.Header{Name: name, Value: values[(n*5+round)%12]}
			m.Add(h)
			want.add(h)
			ask()
		}
	}
}

// TestFindOfEachStanding: P3.4, each header of the table that stands has its own index, wherever it stands besides.
func TestFindOfEachStanding(t *testing.T) {
	m := made(t, api.MaxTable)
	for range 2 {
		for i, h := range standing() {
			if at, ok := m.Find(h.Name, h.Value); at != i+1 || !ok {
				t.Errorf("Find(%s, %s) = %d, %v; want %d, true", h.Name, h.Value, at, ok, i+1)
			}
			m.Add(h)
		}
	}
}

// TestFindTakesTheLeast: P3.4: name and value go ahead of a name alone with a lesser index; of several the least index is told.
func TestFindTakesTheLeast(t *testing.T) {
	m := made(t, api.MaxTable)
	for _, h := range []api.Header{
		{Name: "a", Value: "1"}, {Name: ":method", Value: "PUT"}, {Name: "a", Value: "1"}, {Name: ":method", Value: "PUT"},
		{Name: "a", Value: "2"}, {Name: "cookie", Value: ""}, {Name: "cookie", Value: "c"},
	} {
		m.Add(h)
	}
	for _, c := range []struct {
		name, value string
		i           int
		ok          bool
	}{
		{"a", "1", 66, true}, {"a", "2", 64, true}, {"a", "3", 64, false},
		{":method", "PUT", 65, true}, {":method", "DELETE", 2, false}, {":method", "POST", 3, true},
		{"cookie", "", 32, true}, {"cookie", "c", 62, true}, {"cookie", "d", 32, false},
	} {
		if i, ok := m.Find(c.name, c.value); i != c.i || ok != c.ok {
			t.Errorf("Find(%s, %s) = %d, %v; want %d, %v", c.name, c.value, i, ok, c.i, c.ok)
		}
	}
}

// five is a table of the headers e, d, c, b, a, the ring gone around once.
func five(t *testing.T) (*table.Table, []api.Header) {
	m := made(t, 5*33)
	for range 30 {
		for _, name := range strings.Split("abcde", "") {
			m.Add(api.Header{Name: name})
		}
	}
	return m, []api.Header{{Name: "e"}, {Name: "d"}, {Name: "c"}, {Name: "b"}, {Name: "a"}}
}

// TestEachLeftEarly: P3.4, it yields no more once it is left, and begins at the newest again.
func TestEachLeftEarly(t *testing.T) {
	m, want := five(t)
	each := m.Each()
	for stop := 1; stop <= len(want); stop++ {
		var got []api.Header
		for i, h := range each {
			if i != 62+len(got) {
				t.Errorf("index %d; want %d", i, 62+len(got))
			}
			got = append(got, h)
			if len(got) == stop {
				break
			}
		}
		if !slices.Equal(got, want[:stop]) {
			t.Errorf("left behind %d: %v", stop, got)
		}
	}
	var calls int
	each(func(int, api.Header) bool {
		calls++
		return false
	})
	if calls != 1 {
		t.Errorf("called %d times; want 1", calls)
	}
}

// TestEachWhileTheTableChanges: P3.4, the headers are those that were there when the going over began.
func TestEachWhileTheTableChanges(t *testing.T) {
	changes := map[string]func(*table.Table){
		"Add":          func(m *table.Table) { m.Add(api.Header{Name: "z"}) },
		"a great Add":  func(m *table.Table) { m.Add(api.Header{Name: strings.Repeat("z", 200)}) },
		"Resize to 0":  func(m *table.Table) { _ = m.Resize(0) },
		"Resize to 70": func(m *table.Table) { _ = m.Resize(70) },
		"a round": func(m *table.Table) {
			for range 130 {
				m.Add(api.Header{Value: "y"})
			}
		},
	}
	for name, change := range changes {
		m, want := five(t)
		var got []api.Header
		for _, h := range m.Each() {
			got = append(got, h)
			change(m)
		}
		if !slices.Equal(got, want) {
			t.Errorf("%s: %v", name, got)
		}
	}
}

// TestEachTellsTheTableOfItsBeginning: P3.4, not that of the call of Each; each going over has its own beginning.
func TestEachTellsTheTableOfItsBeginning(t *testing.T) {
	m := made(t, 100)
	each := m.Each()
	m.Add(api.Header{Name: "a"})
	for range 2 {
		var got []api.Header
		for _, h := range each {
			got = append(got, h)
		}
		if !slices.Equal(got, []api.Header{{Name: "a"}}) {
			t.Errorf("a is added: %v", got)
		}
	}
	m.Add(api.Header{Name: "b"})
	var outer, inner []api.Header
	for _, h := range each {
		outer = append(outer, h)
		if len(outer) == 1 {
			m.Add(api.Header{Name: "c"})
			for _, h := range each {
				inner = append(inner, h)
			}
		}
	}
	if !slices.Equal(outer, []api.Header{{Name: "b"}, {Name: "a"}}) || !slices.Equal(inner, []api.Header{{Name: "c"}, {Name: "b"}, {Name: "a"}}) {
		t.Errorf("one within the other: %v, %v", outer, inner)
	}
}
