package table_test

import (
	"math"
	"strings"
	"testing"

	"parley/api"
	"parley/table"
)

// appendix is the chapter's list: a line a header, the value behind a blank.
const appendix = `:authority
:method GET
:method POST
:path /
:path /index.html
:scheme http
:scheme https
:status 200
:status 204
:status 206
:status 304
:status 400
:status 404
:status 500
accept-charset
accept-encoding gzip, deflate
accept-language
accept-ranges
accept
access-control-allow-origin
age
allow
authorization
cache-control
content-disposition
content-encoding
content-language
content-length
content-location
content-range
content-type
cookie
date
etag
expect
expires
from
host
if-match
if-modified-since
if-none-match
if-range
if-unmodified-since
last-modified
link
location
max-forwards
proxy-authenticate
proxy-authorization
range
referer
refresh
retry-after
server
set-cookie
strict-transport-security
transfer-encoding
user-agent
vary
via
www-authenticate`

// standing is the table that stands, from its index 1 on.
func standing() []api.Header {
	var out []api.Header
	for line := range strings.Lines(appendix) {
		name, value, _ := strings.Cut(strings.TrimSuffix(line, "\n"), " ")
		out = append(out, api.Header{Name: name, Value: value})
	}
	return out
}

// noIndexes are numbers that are no index of any table.
func noIndexes() []int {
	return []int{0, -1, -61, -62, math.MinInt, math.MinInt32, math.MaxInt32, math.MaxInt, 1 << 40, 1<<40 + 2, 256 + 2, 1<<32 + 2, -(1 << 40) + 2}
}

// TestStatic: P3.1, the 61 headers of the table that stands, in their order.
func TestStatic(t *testing.T) {
	want := standing()
	if len(want) != 61 {
		t.Fatal("the list of the test has", len(want))
	}
	for i, h := range want {
		if got, ok := table.Static(i + 1); got != h || !ok {
			t.Errorf("Static(%d) = %v, %v; want %v, true", i+1, got, ok, h)
		}
	}
}

// TestStaticOfNone: P3.1, P0.7: a number that is no index has a zero header, and false.
func TestStaticOfNone(t *testing.T) {
	for _, i := range append(noIndexes(), 62, 63, 122, 128) {
		if got, ok := table.Static(i); got != (api.Header{}) || ok {
			t.Errorf("Static(%d) = %v, %v; want none, false", i, got, ok)
		}
	}
}

// TestSize: P3.1, the bytes of the name, of the value, and 32; bytes, not runes; Never counts nothing.
func TestSize(t *testing.T) {
	for _, c := range []struct {
		h    api.Header
		want int
	}{
		{api.Header{}, 32},
		{api.Header{Name: "a", Value: "bc"}, 35},
		{api.Header{Name: "a", Value: "bc", Never: true}, 35},
		{api.Header{Name: "abc"}, 35},
		{api.Header{Value: "abc"}, 35},
		{api.Header{Name: "é", Value: "☃\xff\x00"}, 39},
		{api.Header{Name: strings.Repeat("n", 4096), Value: strings.Repeat("v", 70000)}, 74128},
	} {
		if got := table.Size(c.h); got != c.want {
			t.Errorf("Size(%.20q, %.20q) = %d; want %d", c.h.Name, c.h.Value, got, c.want)
		}
	}
}
