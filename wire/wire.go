// Package wire is what marshalled messages are made of: varints, tags and records (see ../shared/doc/01-wire.md).
package wire

import (
	"iter"
	"math/bits"
	"unicode/utf8"

	"parley/api"
)

const (
	more      = 128 // the bit of a varint's byte that says that another byte follows
	maxVarint = 10  // bytes of the longest varint
)

// Record is a tag and what belongs to it: U of a WVarint, a W64 and a W32; B of a WBytes, and of a WGroup the bytes of its records.
type Record struct {
	Field, Kind int
	U           uint64
	B           []byte
}

// Varint is b and behind it u, seven bits a byte, in as few bytes as there can be.
func Varint(b []byte, u uint64) []byte {
	return addVarint(grown(b, Size(u)), u)
}

// Uvarint is the number that b begins with, and how many bytes it has.
func Uvarint(b []byte) (uint64, int, error) {
	var u uint64
	for i, c := range b {
		if i == maxVarint-1 && c > 1 {
			return 0, 0, api.ErrLong
		}
		u |= uint64(c&^more) << (7 * i)
		if c&more == 0 {
			return u, i + 1, nil
		}
	}
	return 0, 0, api.ErrEnd
}

// Size is how many bytes Varint needs for u.
func Size(u uint64) int {
	// 0 needs a byte, too, as 1 does.
	return (bits.Len64(u|1) + 6) / 7
}

// Zig puts the numbers below 0 between the others, so that small ones of both signs make short varints.
func Zig(n int64) uint64 {
	return uint64(n)<<1 ^ uint64(n>>63)
}

// Zag is the number whose Zig is u.
func Zag(u uint64) int64 {
	return int64(u>>1) ^ -int64(u&1)
}

// Fixed is b and behind it the lowest 4 or 8 bytes of u, the lowest byte first; of any other number of bytes b alone.
func Fixed(b []byte, u uint64, bytes int) []byte {
	if !fixedSize(bytes) {
		return grown(b, 0)
	}
	return addFixed(grown(b, bytes), u, bytes)
}

// Unfixed is the number that the first 4 or 8 bytes of b are, and how many bytes these are.
func Unfixed(b []byte, bytes int) (uint64, int, error) {
	if !fixedSize(bytes) {
		return 0, 0, api.ErrNumber
	}
	if len(b) < bytes {
		return 0, 0, api.ErrEnd
	}
	var u uint64
	for i := range bytes {
		u |= uint64(b[i]) << (8 * i)
	}
	return u, bytes, nil
}

// Tag is the number that a record of that field and kind begins with.
func Tag(field, kind int) (uint64, error) {
	if field < 1 || field > api.MaxNumber || kind < api.WVarint || kind > api.W32 {
		return 0, api.ErrTag
	}
	return uint64(field)<<3 | uint64(kind), nil
}

// Untag is the field and the kind of a tag.
func Untag(u uint64) (int, int, error) {
	field, kind := u>>3, u&7
	// Asked before they become ints, which may be shorter.
	if field < 1 || field > api.MaxNumber || kind > api.W32 {
		return 0, 0, api.ErrTag
	}
	return int(field), int(kind), nil
}

// Put is b and behind it the record r.
func Put(b []byte, r Record) ([]byte, error) {
	tag, err := Tag(r.Field, r.Kind)
	if err != nil {
		return nil, err
	}
	if r.Kind == api.WEnd || r.Kind == api.WGroup && !fitsGroup(r.B) {
		return nil, api.ErrGroup
	}
	// Room for the tag, for a number, a length or a group's end, and for B.
	out := addVarint(grown(b, 2*maxVarint+len(r.B)), tag)
	switch r.Kind {
	case api.WVarint:
		out = addVarint(out, r.U)
	case api.W64:
		out = addFixed(out, r.U, 8)
	case api.W32:
		out = addFixed(out, r.U, 4)
	case api.WBytes:
		out = append(addVarint(out, uint64(len(r.B))), r.B...)
	case api.WGroup:
		out = addVarint(append(out, r.B...), tag-api.WGroup+api.WEnd)
	}
	return out, nil
}

// Next is the record that b begins with, and how many bytes it has.
func Next(b []byte) (Record, int, error) {
	r, n, err := newReaders().record(b, 0)
	if err != nil {
		return Record{}, 0, err
	}
	return own(r), n, nil
}

// Records tells the records of b with the places of their first bytes, up to the first that has an error.
func Records(b []byte) iter.Seq2[int, Record] {
	// It is gone over later, when the caller may have changed b.
	kept := grown(b, 0)
	read := newReaders()
	return func(yield func(int, Record) bool) {
		read.walk(kept, 0, func(at int, r Record) bool { return yield(at, own(r)) })
	}
}

// Check is nil if b is records and nothing else; else the first one's error, with the place of its first byte.
func Check(b []byte) error {
	at, err := newReaders().walk(b, 0, func(int, Record) bool { return true })
	if err != nil {
		return &api.At{Pos: at, Err: err}
	}
	return nil
}

// Text tells whether b is UTF-8.
func Text(b []byte) bool {
	return utf8.Valid(b)
}

// grown is b in new memory, with room for n bytes more: appending in place would write behind the caller's length.
func grown(b []byte, n int) []byte {
	return append(make([]byte, 0, len(b)+n), b...)
}

// own is r with a B that it shares with nobody.
func own(r Record) Record {
	r.B = append([]byte(nil), r.B...)
	return r
}

func addVarint(b []byte, u uint64) []byte {
	for ; u >= more; u >>= 7 {
		b = append(b, byte(u)|more)
	}
	return append(b, byte(u))
}

func addFixed(b []byte, u uint64, bytes int) []byte {
	for i := range bytes {
		b = append(b, byte(u>>(8*i)))
	}
	return b
}

func fixedSize(bytes int) bool {
	return bytes == 4 || bytes == 8
}

// fitsGroup tells whether b may stand in a group: the group itself counts as one around b's records.
func fitsGroup(b []byte) bool {
	_, err := newReaders().walk(b, 1, func(int, Record) bool { return true })
	return err == nil
}
