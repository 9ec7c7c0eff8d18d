package wire

import "parley/api"

// body is what stands behind a record's tag, and how many bytes it has. Its b is a piece of the bytes that were read: it is copied where it is handed out, so that groups in one another are not copied over and over.
type body struct {
	u    uint64
	b    []byte
	size int
}

// reader reads the body that b begins with: of a record of that field, around which depth groups stand.
type reader func(b []byte, field, depth int) (body, error)

// readers has the reader of each kind that a tag may have.
type readers map[int]reader

func newReaders() readers {
	read := readers{
		api.WVarint: varintBody,
		api.W64:     fixedBody(8),
		api.WBytes:  bytesBody,
		api.WEnd:    endBody,
		api.W32:     fixedBody(4),
	}
	read[api.WGroup] = read.groupBody
	return read
}

// record is the record that b begins with, its B a piece of b, and how many bytes it has.
func (read readers) record(b []byte, depth int) (Record, int, error) {
	field, kind, n, err := readTag(b)
	if err != nil {
		return Record{}, 0, err
	}
	behind, err := read[kind](b[n:], field, depth)
	if err != nil {
		return Record{}, 0, err
	}
	return Record{Field: field, Kind: kind, U: behind.u, B: behind.b}, n + behind.size, nil
}

// walk yields the records of b, around which depth groups stand, with their places, until yield has enough or a record has an error: then it answers its place and the error.
func (read readers) walk(b []byte, depth int, yield func(int, Record) bool) (int, error) {
	for at := 0; at < len(b); {
		r, n, err := read.record(b[at:], depth)
		if err != nil {
			return at, err
		}
		if !yield(at, r) {
			return 0, nil
		}
		at += n
	}
	return 0, nil
}

// groupBody goes over the group's records by itself, as walk can't tell the group's end from a stray one.
func (read readers) groupBody(b []byte, field, depth int) (body, error) {
	if depth >= api.MaxDepth {
		return body{}, api.ErrDeep
	}
	at := 0
	for {
		inner, kind, n, err := readTag(b[at:])
		if err != nil {
			return body{}, err
		}
		if kind == api.WEnd && inner == field {
			return body{b: b[:at], size: at + n}, nil
		}
		behind, err := read[kind](b[at+n:], inner, depth+1)
		if err != nil {
			return body{}, err
		}
		at += n + behind.size
	}
}

// readTag is the field and the kind of the tag that b begins with, and how many bytes it has.
func readTag(b []byte) (int, int, int, error) {
	u, n, err := Uvarint(b)
	if err != nil {
		return 0, 0, 0, err
	}
	field, kind, err := Untag(u)
	if err != nil {
		return 0, 0, 0, err
	}
	return field, kind, n, nil
}

func varintBody(b []byte, _, _ int) (body, error) {
	u, n, err := Uvarint(b)
	return body{u: u, size: n}, err
}

func fixedBody(bytes int) reader {
	return func(b []byte, _, _ int) (body, error) {
		u, n, err := Unfixed(b, bytes)
		return body{u: u, size: n}, err
	}
}

func bytesBody(b []byte, _, _ int) (body, error) {
	length, n, err := Uvarint(b)
	if err != nil {
		return body{}, err
	}
	// Held against what is there as a uint64: as an int it could wrap.
	if length > uint64(len(b)-n) {
		return body{}, api.ErrEnd
	}
	end := n + int(length)
	return body{b: b[n:end], size: end}, nil
}

// endBody: the end of a group is read by its group, so one that comes here has none, or not that one.
func endBody([]byte, int, int) (body, error) {
	return body{}, api.ErrGroup
}
