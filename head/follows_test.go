package head_test

import (
	"math/rand"
	"slices"
	"testing"

	"parley/api"
	"parley/head"
)

func one[T any](dice *rand.Rand, l ...T) T {
	return l[dice.Intn(len(l))]
}

// someHeaders is some headers, most of them plain; how often not, hangs on wrongs.
func someHeaders(dice *rand.Rand, most, wrongs int) []api.Header {
	var l []api.Header
	for range dice.Intn(most + 1) {
		h := one(dice, plains()...)
		if dice.Intn(100) < wrongs {
			h = one(dice, notPlains()...)
		}
		h.Never = dice.Intn(4) == 0
		l = append(l, h)
	}
	return l
}

// someList is a list that often is a request, or nearly one.
func someList(dice *rand.Rand) []api.Header {
	l := []api.Header{
		{Name: ":method", Value: one(dice, "GET", "POST", "M")},
		{Name: ":scheme", Value: one(dice, "http", "s")},
		{Name: ":path", Value: one(dice, "/", "/a", "*", "/a", "/", "a")},
		{Name: ":authority", Value: one(dice, "", "me", "me:80")},
	}
	dice.Shuffle(len(l), func(i, j int) { l[i], l[j] = l[j], l[i] })
	if dice.Intn(3) == 0 {
		i := dice.Intn(len(l))
		l = slices.Delete(l, i, i+1)
	}
	if dice.Intn(8) == 0 {
		l = append(l, one(dice, l...))
	}
	if dice.Intn(8) == 0 {
		l[dice.Intn(len(l))].Value = one(dice, "", " ", "\n", "a ", "/")
	}
	l = append(l, someHeaders(dice, 4, 5)...)
	if dice.Intn(8) == 0 {
		i, j := dice.Intn(len(l)), dice.Intn(len(l))
		l[i], l[j] = l[j], l[i]
	}
	for i := range l {
		l[i].Never = dice.Intn(5) == 0
	}
	return l
}

// someAnswer is a list that often is an answer, or nearly one.
func someAnswer(dice *rand.Rand) []api.Header {
	l := list(":status", one(dice, "100", "200", "404", "599", "099", "600", "1000", "2 0"))
	l = append(l, someHeaders(dice, 4, 5)...)
	if dice.Intn(8) == 0 {
		i, j := dice.Intn(len(l)), dice.Intn(len(l))
		l[i], l[j] = l[j], l[i]
	}
	return l
}

// told is the headers with a colon by name, without Never and without an empty authority, and those behind them as they are.
func told(l []api.Header) []api.Header {
	n := 0
	for n < len(l) && l[n].Name != "" && l[n].Name[0] == ':' {
		n++
	}
	first := slices.Clone(l[:n])
	slices.SortFunc(first, func(a, b api.Header) int {
		if a.Name < b.Name {
			return -1
		}
		return 1
	})
	var out []api.Header
	for _, h := range first {
		if h.Name != ":authority" || h.Value != "" {
			out = append(out, api.Header{Name: h.Name, Value: h.Value})
		}
	}
	return append(out, l[n:]...)
}

// TestRequestsThereAndBack: P6.7: Open of Build, and Build of what Open took.
func TestRequestsThereAndBack(t *testing.T) {
	dice := rand.New(rand.NewSource(1))
	taken := 0
	for range 20000 {
		l := someList(dice)
		r, err := head.Open(l)
		if err != nil {
			continue
		}
		taken++
		built, err := head.Build(r)
		if err != nil || !slices.Equal(told(built), told(l)) {
			t.Fatalf("Build of Open(%v) is %v, %v", l, built, err)
		}
		opens(t, built, r)
	}
	if taken < 2000 {
		t.Error("too few were requests:", taken)
	}
}

// TestAnswersThereAndBack: P6.7: OpenAnswer of BuildAnswer, and BuildAnswer of what OpenAnswer took.
func TestAnswersThereAndBack(t *testing.T) {
	dice := rand.New(rand.NewSource(2))
	taken := 0
	for range 20000 {
		l := someAnswer(dice)
		r, err := head.OpenAnswer(l)
		if err != nil {
			continue
		}
		taken++
		built, err := head.BuildAnswer(r)
		if err != nil || !slices.Equal(told(built), told(l)) {
			t.Fatalf("BuildAnswer of OpenAnswer(%v) is %v, %v", l, built, err)
		}
		opensAnswer(t, built, r)
	}
	if taken < 2000 {
		t.Error("too few were answers:", taken)
	}
}

// may tells what each of the three says of l.
func may(l []api.Header) [3]bool {
	_, request := head.Open(l)
	_, answer := head.OpenAnswer(l)
	return [3]bool{request == nil, answer == nil, head.Trailers(l) == nil}
}

func isPlain(h api.Header) bool {
	return head.Trailers([]api.Header{h}) == nil
}

// TestPlainOnesInAnyOrder: P6.8: two plain headers change places, and one goes.
func TestPlainOnesInAnyOrder(t *testing.T) {
	dice := rand.New(rand.NewSource(3))
	swapped, gone := 0, 0
	for range 20000 {
		l := one(dice, someList, someAnswer, func(dice *rand.Rand) []api.Header { return someHeaders(dice, 6, 5) })(dice)
		if len(l) == 0 {
			continue
		}
		was := may(l)
		i, j := dice.Intn(len(l)), dice.Intn(len(l))
		if !isPlain(l[i]) || !isPlain(l[j]) {
			continue
		}
		l[i], l[j] = l[j], l[i]
		if may(l) != was {
			t.Fatalf("%v: %v, and the other way round %v", l, may(l), was)
		}
		swapped++
		for k, may := range may(slices.Delete(slices.Clone(l), i, i+1)) {
			if was[k] && !may {
				t.Fatalf("%v: %v, but not without %d", l, was, i)
			}
			gone++
		}
	}
	if swapped < 2000 || gone < 2000 {
		t.Error("too few were looked at:", swapped, gone)
	}
}
