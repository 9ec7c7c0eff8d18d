package head

import "parley/api"

const (
	contentLength = "content-length"
	mostDigits    = 10 // of a length
)

// Get is the value of the first header of l that has that name.
func Get(l []api.Header, name string) (string, bool) {
	for _, h := range l {
		if h.Name == name {
			return h.Value, true
		}
	}
	return "", false
}

// All is the values of all headers of l that have that name.
func All(l []api.Header, name string) []string {
	var values []string
	for _, h := range l {
		if h.Name == name {
			values = append(values, h.Value)
		}
	}
	return values
}

// Length is what the content-length of l says, and whether l has one.
func Length(l []api.Header) (int, bool, error) {
	texts := All(l, contentLength)
	if len(texts) == 0 {
		return 0, false, nil
	}
	for _, s := range texts {
		if s != texts[0] {
			return 0, false, api.ErrHead
		}
	}
	n, ok := digits(texts[0], 1, mostDigits)
	if !ok {
		return 0, false, api.ErrHead
	}
	return n, true, nil
}

// digits is the number that s is, of least to most decimal digits and nothing else.
func digits(s string, least, most int) (int, bool) {
	if len(s) < least || len(s) > most {
		return 0, false
	}
	n := 0
	for i := range len(s) {
		if !digit(s[i]) {
			return 0, false
		}
		n = 10*n + int(s[i]-'0')
	}
	return n, true
}
