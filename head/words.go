package head

import (
	"strings"

	"parley/api"
)

const (
	signs  = "!#$%&'*+-.^_`|~" // that a name may have beside letters and digits
	blanks = " \t"             // that a value may neither begin nor end with
	breaks = "\x00\n\r"        // that a value may not have at all
)

// Name tells whether s may be a header's name.
func Name(s string) bool {
	for i := range len(s) {
		if !named(s[i]) {
			return false
		}
	}
	return s != ""
}

func named(c byte) bool {
	return c >= 'a' && c <= 'z' || digit(c) || strings.IndexByte(signs, c) >= 0
}

func digit(c byte) bool {
	return c >= '0' && c <= '9'
}

// Value tells whether s may be a header's value.
func Value(s string) bool {
	return !strings.ContainsAny(s, breaks) && s == strings.Trim(s, blanks)
}

// plain tells whether h may stand in each list.
func plain(h api.Header) bool {
	if !Name(h.Name) || !Value(h.Value) {
		return false
	}
	switch h.Name {
	case "connection", "proxy-connection", "keep-alive", "transfer-encoding", "upgrade":
		return false // they speak of one connection of HTTP/1.1, not of the list
	case "te":
		return h.Value == "trailers"
	}
	return true
}
