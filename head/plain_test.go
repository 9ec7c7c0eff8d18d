package head_test

import (
	"testing"

	"parley/api"
	"parley/head"
)

// plains is headers that are plain, one by one.
func plains() []api.Header {
	return append(list(
		"a", "1", "a", "", "te", "trailers", "x", "a b", "x", "é\xff", "host", "h", "cookie", "c=d",
		"content-length", "x", "content-type", "application/grpc", "trailer", "x", "te-", "gzip",
		"connections", "", "connectio", "", "x-connection", "close", "proxy-", "", "keep-aliv", "", "upgrade-insecure-requests", "1",
		"transfer-encodin", "chunked", "status", "200", "path", "/", "!#$%&'*+-.^_`|~", "0",
	), api.Header{Name: "secret", Value: "s", Never: true}, api.Header{Name: "te", Value: "trailers", Never: true})
}

// notPlains is headers that aren't plain, one by one.
func notPlains() []api.Header {
	return append(list(
		"", "", "", "x", "A", "1", "Te", "trailers", "TE", "trailers", "a b", "1", "é", "1", "a\x00", "1",
		"x", "a ", "x", " a", "x", "\ta", "x", "\t", "x", " ", "x", "a\nb", "x", "a\rb", "x", "a\x00b", "x", "\n",
		"te", "gzip", "te", "", "te", "Trailers", "te", "trailers ", "te", "trailers, gzip", "te", "trailer",
		"connection", "close", "connection", "", "proxy-connection", "x", "proxy-connection", "", "keep-alive", "5", "keep-alive", "",
		"transfer-encoding", "chunked", "transfer-encoding", "", "upgrade", "h2c", "upgrade", "", "connection", "trailers",
		":", "x", ":path", "/", ":status", "200", ":method", "GET", ":scheme", "http", ":authority", "x", ":x", "",
	), api.Header{Name: "upgrade", Value: "x", Never: true}, api.Header{Name: "X", Value: "s", Never: true})
}

// TestPlainHeaders: P6.2, P6.3, P6.4: in all three kinds of lists, at each place behind those with a colon.
func TestPlainHeaders(t *testing.T) {
	for _, h := range plains() {
		for _, l := range around(h) {
			trailers(t, l, nil)
			opens(t, join(someRequest(), l), head.Request{Method: "POST", Scheme: "http", Path: "/a", Rest: l})
			opensAnswer(t, join(list(":status", "200"), l), head.Response{Status: 200, Rest: l})
		}
	}
	for _, h := range notPlains() {
		for _, l := range around(h) {
			trailers(t, l, api.ErrHead)
			if h.Name != ":authority" || l[0] != h {
				refused(t, join(someRequest(), l))
			}
			refusedAnswer(t, join(list(":status", "200"), l))
		}
	}
}

// around is lists with h in them: alone, first, last, in the middle.
func around(h api.Header) [][]api.Header {
	one, two := list("b", "2"), list("c", "3")
	me := []api.Header{h}
	return [][]api.Header{me, join(me, one, two), join(one, two, me), join(one, me, two)}
}

// TestTrailers: P6.4: none at all, many, and one that is wrong at each place of many.
func TestTrailers(t *testing.T) {
	trailers(t, nil, nil)
	trailers(t, []api.Header{}, nil)
	trailers(t, plains(), nil)
	trailers(t, list("te", "trailers", "te", "trailers", "a", "1", "a", "2"), nil)
	for i := range plains() {
		l := plains()
		l[i].Name = ":" + l[i].Name
		trailers(t, l, api.ErrHead)
	}
}
