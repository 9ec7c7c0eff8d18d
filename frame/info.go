package frame

import (
	"bytes"
	"slices"

	"parley/api"
)

// Open is what f says.
func Open(f api.Frame) (Info, error) {
	i, err := said(f)
	if err != nil {
		return Info{}, err
	}
	i.Data = bytes.Clone(i.Data)
	return i, nil
}

// Build is the frame that says i.
func Build(i Info) (api.Frame, error) {
	f := written(i)
	// A number that doesn't fit is written cut off, and what the frame doesn't say isn't written at all: then it says something else.
	back, err := said(f)
	if err != nil || !fits(f) || !same(back, i) {
		return api.Frame{}, api.ErrFrame
	}
	return f, nil
}

// said is what f says, its Data a piece of f's payload.
func said(f api.Frame) (Info, error) {
	l, known := layouts()[f.Type]
	i := Info{Type: f.Type, Stream: f.Stream}
	if !known {
		l = other()
		i.Flags = f.Flags
	}
	if !l.where.allows(f.Stream) {
		return Info{}, fault(api.CProtocol, 0)
	}
	for _, x := range l.flags {
		*x.in(&i) = f.Flags&x.bit != 0
	}
	b, err := withoutPadding(&i, f.Payload)
	if err == nil {
		err = l.read(&i, b)
	}
	if err != nil {
		return Info{}, err
	}
	return i, nil
}

// written is the frame of i, whether it says i or not.
func written(i Info) api.Frame {
	l, known := layouts()[i.Type]
	if !known {
		l = other()
	}
	flags := i.Flags
	for _, x := range l.flags {
		if *x.in(&i) {
			flags |= x.bit
		}
	}
	return api.Frame{Type: i.Type, Flags: flags, Stream: i.Stream, Payload: withPadding(i, l.write)}
}

// withoutPadding is what stands between Pad and the padding of the payload b: all of it, if i is not Padded.
func withoutPadding(i *Info, b []byte) ([]byte, error) {
	if !i.Padded {
		return b, nil
	}
	if len(b) == 0 {
		return nil, fault(api.CSize, 0)
	}
	i.Pad = int(b[0])
	if i.Pad >= len(b) {
		return nil, fault(api.CProtocol, 0)
	}
	return b[1 : len(b)-i.Pad], nil
}

// withPadding is the payload of i, between Pad and the padding if it is Padded.
func withPadding(i Info, write func([]byte, Info) []byte) []byte {
	if !i.Padded {
		return write(nil, i)
	}
	pad := byte(i.Pad) // as it is written: it may not fit
	return append(write([]byte{pad}, i), make([]byte, pad)...)
}

// same tells whether a and b say the same.
func same(a, b Info) bool {
	return a.numbers() == b.numbers() && a.marks() == b.marks() &&
		slices.Equal(a.Settings, b.Settings) && bytes.Equal(a.Data, b.Data)
}

func (i Info) numbers() [10]int {
	return [10]int{i.Type, i.Flags, i.Stream, i.Pad, i.Dep, i.Weight, i.Code, i.Last, i.Inc, i.Promise}
}

func (i Info) marks() [6]bool {
	return [6]bool{i.End, i.EndHeads, i.Ack, i.Padded, i.Priority, i.Alone}
}

func fault(code, stream int) error {
	return &api.H2{Code: code, Stream: stream}
}
