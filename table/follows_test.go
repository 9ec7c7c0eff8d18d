package table_test

import (
	"math/rand"
	"slices"
	"strconv"
	"strings"
	"sync"
	"testing"

	"parley/api"
	"parley/table"
)

// randomHeader is one of few names, so that they come again, of all sizes from 32 to beyond the most.
func randomHeader(r *rand.Rand, most int) api.Header {
	h := api.Header{Name: strconv.Itoa(r.Intn(6)), Never: r.Intn(4) == 0}
	switch r.Intn(8) {
	case 0:
		h.Value = strings.Repeat("v", r.Intn(most+8))
	case 1:
		h = standing()[r.Intn(61)]
	case 2:
		h.Name = ""
	default:
		h.Value = strings.Repeat("v", r.Intn(4))
	}
	return h
}

// TestAnyCalls: P3.2 to P3.5, calls of all kinds in any order, against the list.
func TestAnyCalls(t *testing.T) {
	r := rand.New(rand.NewSource(3))
	for range 150 {
		most := r.Intn(1 << r.Intn(13))
		m, want := made(t, most), &model{most: most}
		for range 60 {
			if r.Intn(12) == 0 {
				most = r.Intn(1 << r.Intn(13))
				if err := m.Resize(most); err != nil {
					t.Fatalf("Resize(%d) = %v", most, err)
				}
				want.resize(most)
			} else {
				h := randomHeader(r, most)
				m.Add(h)
				want.add(h)
			}
			hold(t, m, want)
			h := randomHeader(r, most)
			i, ok := m.Find(h.Name, h.Value)
			if wantAt, wantOk := want.find(h.Name, h.Value); i != wantAt || ok != wantOk {
				t.Fatalf("Find(%q, %.20q) = %d, %v; want %d, %v", h.Name, h.Value, i, ok, wantAt, wantOk)
			}
		}
	}
}

// TestWhatStays: P3.5: never above Most; the last one at 62; the others a beginning of what was there, in its order.
func TestWhatStays(t *testing.T) {
	r := rand.New(rand.NewSource(4))
	m := made(t, 300)
	for range 3000 {
		was := gone(m)
		if r.Intn(10) == 0 {
			_ = m.Resize(r.Intn(600))
		} else {
			h := randomHeader(r, m.Most())
			m.Add(h)
			if table.Size(h) <= m.Most() {
				h.Never = false
				if got, ok := m.Get(62); got != h || !ok {
					t.Fatalf("Get(62) = %v, %v; want %v", got, ok, h)
				}
				was = slices.Insert(was, 0, h)
			}
		}
		now := gone(m)
		if m.Size() > m.Most() || len(now) > len(was) || !slices.Equal(now, was[:len(now)]) {
			t.Fatalf("Size %d, Most %d; %v became %v", m.Size(), m.Most(), was, now)
		}
	}
}

// TestTheSameBehindAResizeToNothing: P3.6, whatever came ahead of it can't be told any more.
func TestTheSameBehindAResizeToNothing(t *testing.T) {
	r := rand.New(rand.NewSource(5))
	for ahead := range 140 {
		old, fresh := made(t, api.MaxTable), made(t, api.MaxTable)
		for range ahead {
			old.Add(randomHeader(r, 100))
		}
		want := &model{most: 500}
		for _, m := range []*table.Table{old, fresh} {
			_ = m.Resize(0)
			hold(t, m, &model{})
			_ = m.Resize(500)
		}
		for range 40 {
			h := randomHeader(r, 500)
			old.Add(h)
			fresh.Add(h)
			want.add(h)
			hold(t, old, want)
			hold(t, fresh, want)
		}
		if *old != *fresh {
			t.Errorf("%d headers ahead: the tables are not the same", ahead)
		}
	}
}

// TestTablesApart: P3.6, P0.5: a table knows of no other one, whoever else calls.
func TestTablesApart(t *testing.T) {
	var group sync.WaitGroup
	for seed := range 8 {
		group.Go(func() {
			r := rand.New(rand.NewSource(int64(seed)))
			m, err := table.New(250)
			if err != nil {
				t.Errorf("New: %v", err)
				return
			}
			want := &model{most: 250}
			for range 300 {
				h := randomHeader(r, 250)
				m.Add(h)
				want.add(h)
				if !slices.Equal(gone(m), want.list) {
					t.Errorf("seed %d: %v; want %v", seed, gone(m), want.list)
					return
				}
			}
		})
	}
	group.Wait()
}
