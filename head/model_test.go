package head_test

import (
	"math/rand"
	"regexp"
	"slices"
	"strconv"
	"testing"

	"parley/api"
	"parley/head"
)

// A second way of saying what lists may be: by expressions, and by counting names.

var (
	nameForm   = regexp.MustCompile("^[-a-z0-9!#$%&'*+.^_`|~]+\\z")
	statusForm = regexp.MustCompile(`^[1-5][0-9][0-9]\z`)
	pathForm   = regexp.MustCompile(`^(/(?s:.*)|\*)\z`)
	lengthForm = regexp.MustCompile(`^[0-9]{1,10}\z`)
	badForm    = regexp.MustCompile(`^[ \t]|[ \t]\z|[\x00\n\r]`)
	hopForm    = regexp.MustCompile(`^(connection|proxy-connection|keep-alive|transfer-encoding|upgrade)\z`)
)

func modelPlain(h api.Header) bool {
	return nameForm.MatchString(h.Name) && !badForm.MatchString(h.Value) && !hopForm.MatchString(h.Name) && (h.Name != "te" || h.Value == "trailers")
}

// modelSplit is how often each name with a colon comes with which last value, and what stands behind them; false, if one of l may not be at all.
func modelSplit(l []api.Header) (map[string][]string, []api.Header, bool) {
	heads := map[string][]string{}
	behind := slices.IndexFunc(l, func(h api.Header) bool { return h.Name == "" || h.Name[0] != ':' })
	if behind < 0 {
		behind = len(l)
	}
	for _, h := range l[:behind] {
		heads[h.Name] = append(heads[h.Name], h.Value)
		if badForm.MatchString(h.Value) {
			return nil, nil, false
		}
	}
	return heads, l[behind:], !slices.ContainsFunc(l[behind:], func(h api.Header) bool { return !modelPlain(h) })
}

func modelOpen(l []api.Header) (head.Request, bool) {
	heads, rest, ok := modelSplit(l)
	for name, values := range heads {
		known := slices.Contains([]string{":method", ":scheme", ":path", ":authority"}, name)
		ok = ok && known && len(values) == 1 && (name == ":authority" || values[0] != "")
	}
	if !ok || len(heads[":method"]) == 0 || len(heads[":scheme"]) == 0 || len(heads[":path"]) == 0 || !pathForm.MatchString(heads[":path"][0]) {
		return head.Request{}, false
	}
	r := head.Request{Method: heads[":method"][0], Scheme: heads[":scheme"][0], Path: heads[":path"][0], Rest: rest}
	if len(heads[":authority"]) > 0 {
		r.Authority = heads[":authority"][0]
	}
	return r, true
}

func modelOpenAnswer(l []api.Header) (head.Response, bool) {
	heads, rest, ok := modelSplit(l)
	if !ok || len(heads) != 1 || len(heads[":status"]) != 1 || !statusForm.MatchString(heads[":status"][0]) {
		return head.Response{}, false
	}
	status, err := strconv.Atoi(heads[":status"][0])
	return head.Response{Status: status, Rest: rest}, err == nil
}

// someText is some short text of bytes at which something changes.
func someText(dice *rand.Rand) string {
	b := make([]byte, dice.Intn(4))
	for i := range b {
		b[i] = one(dice, []byte("az09AZ\x00\t\n\r /:;@[`{|}~!\"#$%&'()*+,-._\x7f\x80\xff")...)
	}
	return string(b)
}

// TestWordsAgainstModel: P6.1: Name and Value of many texts.
func TestWordsAgainstModel(t *testing.T) {
	dice := rand.New(rand.NewSource(4))
	for range 50000 {
		s := someText(dice)
		if head.Name(s) != nameForm.MatchString(s) || head.Value(s) == badForm.MatchString(s) {
			t.Fatalf("%q: %v, %v", s, head.Name(s), head.Value(s))
		}
	}
}

// TestListsAgainstModel: P6.2, P6.3, P6.4: many lists, most of which nearly may be.
func TestListsAgainstModel(t *testing.T) {
	dice := rand.New(rand.NewSource(5))
	for range 40000 {
		l := one(dice, someList, someAnswer)(dice)
		if dice.Intn(4) == 0 {
			l[dice.Intn(len(l))].Value = someText(dice)
		}
		if dice.Intn(8) == 0 {
			l[dice.Intn(len(l))].Name = someText(dice)
		}
		if r, ok := modelOpen(l); ok {
			opens(t, l, r)
		} else {
			refused(t, l)
		}
		if r, ok := modelOpenAnswer(l); ok {
			opensAnswer(t, l, r)
		} else {
			refusedAnswer(t, l)
		}
		want := error(nil)
		if slices.ContainsFunc(l, func(h api.Header) bool { return !modelPlain(h) }) {
			want = api.ErrHead
		}
		trailers(t, l, want)
	}
}

// TestBuildAgainstModel: P6.3, P6.4: of what may be built and what may not.
func TestBuildAgainstModel(t *testing.T) {
	dice := rand.New(rand.NewSource(6))
	for range 20000 {
		r := head.Request{Method: one(dice, "GET", "G", someText(dice)), Scheme: one(dice, "s", "http", someText(dice)), Authority: one(dice, "", "me", someText(dice)), Path: one(dice, "/", "*", "/"+someText(dice), someText(dice)), Rest: someHeaders(dice, 3, 10)}
		l := list(":method", r.Method, ":scheme", r.Scheme, ":authority", r.Authority, ":path", r.Path)
		if r.Authority == "" {
			l = slices.Delete(l, 2, 3)
		}
		back, ok := modelOpen(append(l, r.Rest...))
		if ok && sameRequest(back, r) {
			builds(t, r, append(l, r.Rest...))
		} else {
			unbuilt(t, r)
		}
		a := head.Response{Status: dice.Intn(700), Rest: someHeaders(dice, 3, 10)}
		l = append(list(":status", strconv.Itoa(a.Status)), a.Rest...)
		if _, ok := modelOpenAnswer(l); ok {
			buildsAnswer(t, a, l)
		} else {
			unbuiltAnswer(t, a)
		}
	}
}

// TestLengthAgainstModel: P6.5: of lists with none, one and more.
func TestLengthAgainstModel(t *testing.T) {
	dice := rand.New(rand.NewSource(7))
	for range 20000 {
		var l []api.Header
		var texts []string
		for range dice.Intn(4) {
			h := api.Header{Name: one(dice, "content-length", "content-length", "content-type"), Value: one(dice, "5", "5", "5", "05", strconv.Itoa(dice.Intn(1<<40)), someText(dice))}
			l = append(l, h)
			if h.Name == "content-length" {
				texts = append(texts, h.Value)
			}
		}
		switch {
		case len(texts) == 0:
			lengths(t, l, 0, false, nil)
		case len(slices.Compact(texts)) > 1 || !lengthForm.MatchString(texts[0]):
			lengths(t, l, 0, false, api.ErrHead)
		default:
			n, _ := strconv.Atoi(texts[0])
			lengths(t, l, n, true, nil)
		}
	}
}
