package hpack

import (
	"parley/api"
	"parley/table"
)

// Decoder reads the lists of blocks, one after the other.
type Decoder struct {
	table *table.Table // nil, when a block had a fault
	limit int          // what a size may be at most
	held  int          // the table's headers behind the last block without a fault: one with a fault changes nothing
}

// NewDecoder is a decoder with an empty table of at most limit bytes.
func NewDecoder(limit int) (*Decoder, error) {
	t, err := table.New(limit)
	if err != nil {
		return nil, err
	}
	return &Decoder{table: t, limit: limit}, nil
}

// Decode is the list whose block b is; behind a fault it takes no block any more.
func (d *Decoder) Decode(b []byte) (l []api.Header, err error) {
	if d.table == nil {
		return nil, api.ErrGone
	}
	defer func() {
		switch x := recover().(type) {
		case nil:
		case fault:
			d.table = nil
			l, err = nil, x.err
		default:
			panic(x)
		}
	}()
	r := reading{left: b, table: d.table, limit: d.limit}
	r.all()
	d.held = d.table.Len()
	return r.list, nil
}

// Len is how many headers the table has.
func (d *Decoder) Len() int {
	return d.held
}

// fault is what the reading of a block is given up with, by a panic.
type fault struct{ err error }

func giveUp(err error) {
	panic(fault{err})
}

// reading is a block that is being read.
type reading struct {
	left  []byte // what was not read yet
	table *table.Table
	limit int
	list  []api.Header // what was read
	size  int          // its Size
}

// kind is one of the things that a block is made of.
type kind struct {
	first byte // the least byte that one begins with
	bits  int  // the prefix of the number that one begins with
	read  func(r *reading, n int)
}

// kinds is all of them, by falling first bytes.
func kinds() []kind {
	return []kind{
		{indexed, indexedBits, (*reading).indexed},
		{added, addedBits, (*reading).added},
		{resized, resizedBits, (*reading).resized},
		{never, neverBits, (*reading).never},
		{plain, plainBits, (*reading).plain},
	}
}

func (r *reading) all() {
	known := kinds()
	for len(r.left) > 0 {
		k := 0
		for r.left[0] < known[k].first {
			k++
		}
		known[k].read(r, r.number(known[k].bits))
	}
}

func (r *reading) indexed(n int) {
	r.take(r.header(n))
}

func (r *reading) added(n int) {
	h := r.named(n)
	r.take(h)
	r.table.Add(h)
}

func (r *reading) never(n int) {
	h := r.named(n)
	h.Never = true
	r.take(h)
}

func (r *reading) plain(n int) {
	r.take(r.named(n))
}

func (r *reading) resized(n int) {
	if len(r.list) > 0 || n > r.limit {
		giveUp(api.ErrTable)
	}
	if err := r.table.Resize(n); err != nil {
		giveUp(err)
	}
}

// take is told each header when all of it was read.
func (r *reading) take(h api.Header) {
	r.size += table.Size(h)
	if r.size > api.MaxList {
		giveUp(api.ErrList)
	}
	r.list = append(r.list, h)
}

// named reads what stands behind the index n of a name.
func (r *reading) named(n int) api.Header {
	var h api.Header
	if n == 0 {
		h.Name = r.text()
	} else {
		h.Name = r.header(n).Name
	}
	h.Value = r.text()
	return h
}

func (r *reading) header(n int) api.Header {
	h, ok := r.table.Get(n)
	if !ok {
		giveUp(api.ErrIndex)
	}
	return h
}

func (r *reading) number(bits int) int {
	n, size, err := Int(r.left, bits)
	if err != nil {
		giveUp(err)
	}
	r.left = r.left[size:]
	return n
}

func (r *reading) text() string {
	s, size, err := Text(r.left)
	if err != nil {
		giveUp(err)
	}
	r.left = r.left[size:]
	return s
}
