package head_test

import (
	"slices"
	"testing"

	"parley/api"
	"parley/head"
)

func join(ls ...[]api.Header) []api.Header {
	return slices.Concat(ls...)
}

func someRequest() []api.Header {
	return list(":method", "POST", ":path", "/a", ":scheme", "http")
}

func sameRequest(a, b head.Request) bool {
	return a.Method == b.Method && a.Scheme == b.Scheme && a.Authority == b.Authority && a.Path == b.Path && slices.Equal(a.Rest, b.Rest)
}

func sameAnswer(a, b head.Response) bool {
	return a.Status == b.Status && slices.Equal(a.Rest, b.Rest)
}

func opens(t *testing.T, l []api.Header, want head.Request) {
	t.Helper()
	if r, err := head.Open(l); err != nil || !sameRequest(r, want) {
		t.Errorf("Open(%.300v) is %.300v, %v", l, r, err)
	}
}

func refused(t *testing.T, l []api.Header) {
	t.Helper()
	if r, err := head.Open(l); err != api.ErrHead || !sameRequest(r, head.Request{}) {
		t.Errorf("Open(%.300v) is %.300v, %v", l, r, err)
	}
}

func opensAnswer(t *testing.T, l []api.Header, want head.Response) {
	t.Helper()
	if r, err := head.OpenAnswer(l); err != nil || !sameAnswer(r, want) {
		t.Errorf("OpenAnswer(%.300v) is %v, %v", l, r, err)
	}
}

func refusedAnswer(t *testing.T, l []api.Header) {
	t.Helper()
	if r, err := head.OpenAnswer(l); err != api.ErrHead || !sameAnswer(r, head.Response{}) {
		t.Errorf("OpenAnswer(%.300v) is %v, %v", l, r, err)
	}
}

func builds(t *testing.T, r head.Request, want []api.Header) {
	t.Helper()
	if l, err := head.Build(r); err != nil || !slices.Equal(l, want) {
		t.Errorf("Build(%.300v) is %.300v, %v", r, l, err)
	}
}

func unbuilt(t *testing.T, r head.Request) {
	t.Helper()
	if l, err := head.Build(r); err != api.ErrHead || len(l) > 0 {
		t.Errorf("Build(%.300v) is %.300v, %v", r, l, err)
	}
}

func trailers(t *testing.T, l []api.Header, want error) {
	t.Helper()
	if err := head.Trailers(l); err != want {
		t.Errorf("Trailers(%.300v) is %v", l, err)
	}
}

// orders is all orders of l.
func orders(l []api.Header) [][]api.Header {
	if len(l) == 0 {
		return [][]api.Header{nil}
	}
	var all [][]api.Header
	for i := range l {
		for _, rest := range orders(slices.Delete(slices.Clone(l), i, i+1)) {
			all = append(all, join(l[i:i+1], rest))
		}
	}
	return all
}

// TestRequestExamples: the chapter's examples.
func TestRequestExamples(t *testing.T) {
	start := join(someRequest(), list("te", "trailers"))
	opens(t, start, head.Request{Method: "POST", Scheme: "http", Path: "/a", Rest: list("te", "trailers")})
	refused(t, join(start, list(":authority", "x")))
	refused(t, join(someRequest(), list("te", "gzip")))
	refused(t, join(someRequest(), list("Te", "trailers")))
	refused(t, list(":method", "POST", ":path", "a", ":scheme", "http", "te", "trailers"))
	refused(t, join(start, list("x", "a ")))
	refused(t, list(":method", "POST", ":path", "/a", "te", "trailers"))
}

// TestOpenInAnyOrder: P6.3: the headers with a colon in each order, with an authority and without.
func TestOpenInAnyOrder(t *testing.T) {
	rest := list("b", "2", "a", "1", "b", "2")
	want := head.Request{Method: "GET", Scheme: "https", Path: "/x?y", Rest: rest}
	for _, l := range orders(list(":method", "GET", ":scheme", "https", ":path", "/x?y")) {
		opens(t, join(l, rest), want)
	}
	want.Authority = "me:80"
	for _, l := range orders(list(":method", "GET", ":scheme", "https", ":path", "/x?y", ":authority", "me:80")) {
		opens(t, join(l, rest), want)
		opens(t, l, head.Request{Method: "GET", Scheme: "https", Path: "/x?y", Authority: "me:80"})
	}
}

// TestOpenWhatIsThere: P6.3: none missing, none twice, no others, wherever they stand.
func TestOpenWhatIsThere(t *testing.T) {
	whole := list(":method", "GET", ":scheme", "https", ":path", "/", ":authority", "me")
	rest := list("b", "2", "a", "1")
	for i, h := range whole {
		without := slices.Delete(slices.Clone(whole), i, i+1)
		if h.Name == ":authority" {
			opens(t, join(without, rest), head.Request{Method: "GET", Scheme: "https", Path: "/", Rest: rest})
		} else {
			refused(t, join(without, rest))
			refused(t, without)
		}
		refused(t, join(without, rest, whole[i:i+1])) // it stands behind plain ones
		for j := range len(whole) + 1 {
			refused(t, join(slices.Insert(slices.Clone(whole), j, h), rest))
		}
		refused(t, join(whole[:i], rest[:1], whole[i:], rest[1:])) // a plain one among them
	}
	for _, h := range list(":status", "200", ":protocol", "websocket", ":", "x", ":Path", "/", ":methods", "GET", "::path", "/", ":host", "me", ":path ", "/", " :path", "/") {
		for j := range len(whole) + 1 {
			refused(t, join(slices.Insert(slices.Clone(whole), j, h), rest))
			refused(t, slices.Insert(slices.Clone(whole), j, h))
		}
	}
	refused(t, nil)
	refused(t, rest)
	refused(t, whole[3:])
}

// TestOpenValues: P6.3: which values the headers with a colon may have.
func TestOpenValues(t *testing.T) {
	for _, x := range []struct {
		i      int
		value  string
		may    bool
		reason string
	}{
		{0, "", false, "empty"}, {1, "", false, "empty"}, {2, "", false, "empty"}, {3, "", true, ""},
		{0, "get", true, ""}, {0, "*", true, ""}, {0, "a b", true, ""}, {0, "é", true, ""},
		{1, "s", true, ""}, {1, "HTTP", true, ""}, {1, "/", true, ""}, {3, "a b", true, ""}, {3, "*", true, ""}, {3, ":", true, ""},
		{2, "/", true, ""}, {2, "*", true, ""}, {2, "//", true, ""}, {2, "/*", true, ""}, {2, "/a b", true, ""}, {2, "/é", true, ""}, {2, "/\xff", true, ""},
		{2, "a", false, "no path"}, {2, "**", false, "no path"}, {2, "*/", false, "no path"}, {2, "a/", false, "no path"}, {2, "http://me/", false, "no path"}, {2, "?a", false, "no path"},
		{2, "/ ", false, "a blank"}, {2, " /", false, "a blank"}, {2, "* ", false, "a blank"}, {2, "/\t", false, "a blank"}, {2, "/\n", false, "a break"}, {2, "/a\x00b", false, "a break"},
		{0, " GET", false, "a blank"}, {0, "GET\t", false, "a blank"}, {0, "G\rT", false, "a break"}, {0, " ", false, "a blank"},
		{1, "http ", false, "a blank"}, {1, "\thttp", false, "a blank"}, {1, "h\x00p", false, "a break"},
		{3, "me ", false, "a blank"}, {3, " ", false, "a blank"}, {3, "\tme", false, "a blank"}, {3, "m\ne", false, "a break"},
	} {
		want := [4]string{"GET", "https", "/", "me"}
		want[x.i] = x.value
		l := list(":method", want[0], ":scheme", want[1], ":path", want[2], ":authority", want[3])
		r := head.Request{Method: want[0], Scheme: want[1], Path: want[2], Authority: want[3]}
		for _, l := range orders(l) {
			if x.may {
				opens(t, l, r)
			} else {
				refused(t, l)
			}
		}
		if !x.may {
			unbuilt(t, r)
			continue
		}
		if r.Authority == "" {
			l = l[:3]
		} else {
			l[2], l[3] = l[3], l[2]
		}
		builds(t, r, l)
	}
}

// TestOpenLastsOut: P6.3: a value that was refused isn't mended by one that comes behind it.
func TestOpenLastsOut(t *testing.T) {
	refused(t, list(":method", "", ":method", "GET", ":scheme", "s", ":path", "/"))
	refused(t, list(":path", "a", ":path", "/", ":scheme", "s", ":method", "GET"))
	refused(t, list(":authority", "", ":authority", "me", ":scheme", "s", ":method", "GET", ":path", "/"))
	refused(t, list(":authority", "", ":authority", "", ":scheme", "s", ":method", "GET", ":path", "/"))
}

// TestNeverOfRequests: P6.6, P6.7: Never stays in Rest, and is of no weight with a colon.
func TestNeverOfRequests(t *testing.T) {
	l := someRequest()
	for i := range l {
		l[i].Never = true
	}
	rest := []api.Header{{Name: "a", Value: "1", Never: true}, {Name: "b", Value: "2"}, {Name: "c", Never: true}}
	r := head.Request{Method: "POST", Scheme: "http", Path: "/a", Rest: rest}
	opens(t, join(l, rest), r)
	builds(t, r, join(list(":method", "POST", ":scheme", "http", ":path", "/a"), rest))
}

// TestBuild: P6.3: the order of what is built.
func TestBuild(t *testing.T) {
	rest := list("te", "trailers", "b", "2", "a", "1", "b", "2")
	builds(t, head.Request{Method: "M", Scheme: "s", Path: "*"}, list(":method", "M", ":scheme", "s", ":path", "*"))
	builds(t, head.Request{Method: "M", Scheme: "s", Path: "/p", Rest: rest}, join(list(":method", "M", ":scheme", "s", ":path", "/p"), rest))
	builds(t, head.Request{Method: "M", Scheme: "s", Authority: "a", Path: "/p", Rest: rest}, join(list(":method", "M", ":scheme", "s", ":authority", "a", ":path", "/p"), rest))
	for _, h := range plains() {
		rest := []api.Header{h}
		builds(t, head.Request{Method: "M", Scheme: "s", Path: "/p", Rest: rest}, join(list(":method", "M", ":scheme", "s", ":path", "/p"), rest))
	}
}

// TestBuildRefuses: P6.3: what would be no request, and a colon anywhere in Rest.
func TestBuildRefuses(t *testing.T) {
	unbuilt(t, head.Request{})
	unbuilt(t, head.Request{Scheme: "s", Path: "/"})
	unbuilt(t, head.Request{Method: "M", Path: "/"})
	unbuilt(t, head.Request{Method: "M", Scheme: "s"})
	unbuilt(t, head.Request{Rest: someRequest()})
	unbuilt(t, head.Request{Method: "M", Scheme: "s", Rest: list(":path", "/")})
	for _, h := range notPlains() {
		for _, rest := range around(h) {
			unbuilt(t, head.Request{Method: "M", Scheme: "s", Path: "/", Rest: rest})
			unbuilt(t, head.Request{Method: "M", Scheme: "s", Authority: "me", Path: "/", Rest: rest})
		}
	}
}
