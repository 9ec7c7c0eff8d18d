package hpack

import (
	"parley/api"
	"parley/table"
)

// Encoder makes blocks of lists, one after the other.
type Encoder struct {
	table *table.Table
	asked bool // whether there was a Resize since the last block
	least int  // the least size of these; the last one is the table's Most
}

// NewEncoder is an encoder with an empty table of at most most bytes.
func NewEncoder(most int) (*Encoder, error) {
	t, err := table.New(most)
	if err != nil {
		return nil, err
	}
	return &Encoder{table: t}, nil
}

// Resize lets the table have at most most bytes; the next block tells it.
func (e *Encoder) Resize(most int) error {
	if err := e.table.Resize(most); err != nil {
		return err
	}
	if !e.asked || most < e.least {
		e.asked, e.least = true, most
	}
	return nil
}

// Encode is the block of l.
func (e *Encoder) Encode(l []api.Header) []byte {
	b := e.addSizes(nil)
	for _, h := range l {
		b = e.addHeader(b, h)
	}
	return b
}

// addSizes tells the least size too, as what went for it must go at the other end.
func (e *Encoder) addSizes(b []byte) []byte {
	if !e.asked {
		return b
	}
	last := e.table.Most()
	if e.least < last {
		b = addInt(b, resized, resizedBits, e.least)
	}
	e.asked, e.least = false, 0
	return addInt(b, resized, resizedBits, last)
}

func (e *Encoder) addHeader(b []byte, h api.Header) []byte {
	i, whole := e.table.Find(h.Name, h.Value)
	switch {
	case h.Never:
		b = addInt(b, never, neverBits, i)
	case whole:
		return addInt(b, indexed, indexedBits, i)
	case table.Size(h) > e.table.Most():
		b = addInt(b, plain, plainBits, i)
	default:
		b = addInt(b, added, addedBits, i)
		e.table.Add(h)
	}
	if i == 0 {
		b = addText(b, h.Name)
	}
	return addText(b, h.Value)
}
