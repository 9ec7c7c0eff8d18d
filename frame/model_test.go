package frame_test

import (
	"bytes"
	"encoding/binary"
	"slices"
	"testing"

	"parley/api"
	"parley/frame"
)

const greatest = int(^uint(0) >> 1)

// join is the lists behind one another, in new memory.
func join(lists ...[]byte) []byte {
	return slices.Concat(lists...)
}

// run is n bytes c.
func run(n int, c byte) []byte {
	return bytes.Repeat([]byte{c}, n)
}

func sameFrame(a, b api.Frame) bool {
	return a.Type == b.Type && a.Flags == b.Flags && a.Stream == b.Stream && bytes.Equal(a.Payload, b.Payload)
}

func sameInfo(a, b frame.Info) bool {
	return a.Type == b.Type && a.Flags == b.Flags && a.Stream == b.Stream &&
		a.End == b.End && a.EndHeads == b.EndHeads && a.Ack == b.Ack &&
		a.Padded == b.Padded && a.Priority == b.Priority && a.Alone == b.Alone &&
		a.Pad == b.Pad && a.Dep == b.Dep && a.Weight == b.Weight &&
		a.Code == b.Code && a.Last == b.Last && a.Inc == b.Inc && a.Promise == b.Promise &&
		slices.Equal(a.Settings, b.Settings) && bytes.Equal(a.Data, b.Data)
}

// opens holds Open to what the frame says.
func opens(t *testing.T, f api.Frame, want frame.Info) {
	t.Helper()
	if i, err := frame.Open(f); !sameInfo(i, want) || err != nil {
		t.Errorf("Open(%.200v) = %.300v, %v; want %.300v", f, i, err, want)
	}
}

// refused holds Open to the fault, with nothing beside it.
func refused(t *testing.T, f api.Frame, code, stream int) {
	t.Helper()
	i, err := frame.Open(f)
	if h, ok := err.(*api.H2); !ok || *h != (api.H2{Code: code, Stream: stream}) || !sameInfo(i, frame.Info{}) {
		t.Errorf("Open(%.200v) = %.300v, %v; want the code %d of %d", f, i, err, code, stream)
	}
}

// builds holds Build to the frame.
func builds(t *testing.T, i frame.Info, want api.Frame) {
	t.Helper()
	if f, err := frame.Build(i); !sameFrame(f, want) || err != nil {
		t.Errorf("Build(%+.300v) = %.200v, %v; want %.200v", i, f, err, want)
	}
}

// unbuilt holds Build to ErrFrame, with nothing beside it.
func unbuilt(t *testing.T, i frame.Info) {
	t.Helper()
	if f, err := frame.Build(i); err != api.ErrFrame || !sameFrame(f, api.Frame{}) {
		t.Errorf("Build(%+.300v) = %.200v, %v; want ErrFrame", i, f, err)
	}
}

// modelOpen is P5.2, said as the document's list of faults goes, fault by fault for all types; a code below 0 is no fault.
func modelOpen(f api.Frame) (i frame.Info, code, stream int) {
	none := frame.Info{}
	b := f.Payload
	at31 := func(at int) int { return int(binary.BigEndian.Uint32(b[at:]) & (1<<31 - 1)) }
	on := func(flag int) bool { return f.Flags&flag != 0 }
	heads, data, push := f.Type == api.FHeaders, f.Type == api.FData, f.Type == api.FPush
	paddable := heads || data || push
	tied := heads && on(api.FlagPriority)

	if code, stream := modelEarly(f); code >= 0 {
		return none, code, stream
	}
	i = frame.Info{Type: f.Type, Stream: f.Stream}
	if paddable && on(api.FlagPadded) {
		if len(b) == 0 {
			return none, api.CSize, 0
		}
		if int(b[0]) >= len(b) {
			return none, api.CProtocol, 0
		}
		i.Padded, i.Pad = true, int(b[0])
		b = b[1 : len(b)-int(b[0])]
	}
	if tied && len(b) < 5 || push && len(b) < 4 {
		return none, api.CSize, 0
	}
	if tied || f.Type == api.FPriority {
		i.Priority, i.Alone, i.Dep, i.Weight = tied, b[0] > 127, at31(0), int(b[4])+1
		if i.Dep == f.Stream {
			return none, api.CProtocol, f.Stream
		}
		b = b[5:]
	}
	if push {
		if i.Promise = at31(0); i.Promise == 0 {
			return none, api.CProtocol, 0
		}
		b = b[4:]
	}
	i.End = (heads || data) && on(api.FlagEnd)
	i.EndHeads = (heads || push || f.Type == api.FContinue) && on(api.FlagEndHeads)
	i.Ack = (f.Type == api.FSettings || f.Type == api.FPing) && on(api.FlagAck)
	switch f.Type {
	case api.FData, api.FHeaders, api.FPush, api.FPing, api.FContinue:
		i.Data = b
	case api.FReset:
		i.Code = int(binary.BigEndian.Uint32(b))
	case api.FGoAway:
		i.Last, i.Code, i.Data = at31(0), int(binary.BigEndian.Uint32(b[4:])), b[8:]
	case api.FWindow:
		if i.Inc = at31(0); i.Inc == 0 {
			return none, api.CProtocol, f.Stream
		}
	case api.FSettings:
		return modelSettings(i, b)
	case api.FPriority:
	default:
		i.Flags, i.Data = f.Flags, b
	}
	return i, -1, 0
}

// modelEarly is the first two of the faults.
func modelEarly(f api.Frame) (code, stream int) {
	n, ack := len(f.Payload), f.Flags&api.FlagAck != 0
	switch f.Type {
	case api.FData, api.FHeaders, api.FPriority, api.FReset, api.FPush, api.FContinue:
		if f.Stream == 0 {
			return api.CProtocol, 0
		}
	case api.FSettings, api.FPing, api.FGoAway:
		if f.Stream != 0 {
			return api.CProtocol, 0
		}
	}
	switch {
	case (f.Type == api.FReset || f.Type == api.FWindow) && n != 4,
		f.Type == api.FPing && n != 8,
		f.Type == api.FSettings && ack && n > 0,
		f.Type == api.FSettings && !ack && n%6 != 0,
		f.Type == api.FGoAway && n < 8:
		return api.CSize, 0
	case f.Type == api.FPriority && n != 5:
		return api.CSize, f.Stream
	}
	return -1, 0
}

func modelSettings(i frame.Info, b []byte) (frame.Info, int, int) {
	for s := range slices.Chunk(b, 6) {
		id, value := binary.BigEndian.Uint16(s), binary.BigEndian.Uint32(s[2:])
		switch {
		case id == api.SPush && value > 1, id == api.SFrame && value < 16384, id == api.SFrame && value > 1<<24-1:
			return frame.Info{}, api.CProtocol, 0
		case id == api.SWindow && value > api.MaxWindow:
			return frame.Info{}, api.CFlow, 0
		}
		i.Settings = append(i.Settings, api.Setting{ID: int(id), Value: int(value)})
	}
	return i, -1, 0
}

// modelFits is P5.3's list of what a number may be and of what may be said, with no look at bytes.
func modelFits(i frame.Info) bool {
	in := func(n, least, most int) bool { return n >= least && n <= most }
	kind := func(kinds ...int) bool { return slices.Contains(kinds, i.Type) }
	known := in(i.Type, api.FData, api.FContinue)
	tied := i.Type == api.FPriority || i.Type == api.FHeaders && i.Priority
	fits := in(i.Type, 0, 255) && in(i.Stream, 0, api.MaxStream) && in(i.Flags, 0, 255) &&
		in(i.Pad, 0, 255) && in(i.Dep, 0, api.MaxStream) && in(i.Last, 0, api.MaxStream) &&
		in(i.Inc, 0, api.MaxStream) && in(i.Promise, 0, api.MaxStream) && in(i.Code, 0, 1<<32-1)
	for _, s := range i.Settings {
		fits = fits && in(s.ID, 0, 65535) && in(s.Value, 0, 1<<32-1)
	}
	unsaid := known && i.Flags != 0 ||
		i.End && !kind(api.FData, api.FHeaders) ||
		i.EndHeads && !kind(api.FHeaders, api.FPush, api.FContinue) ||
		i.Ack && !kind(api.FSettings, api.FPing) ||
		i.Padded && !kind(api.FData, api.FHeaders, api.FPush) ||
		i.Priority && !kind(api.FHeaders) ||
		i.Pad != 0 && !i.Padded ||
		(i.Alone || i.Dep != 0) && !tied ||
		i.Code != 0 && !kind(api.FReset, api.FGoAway) ||
		i.Last != 0 && !kind(api.FGoAway) ||
		i.Inc != 0 && !kind(api.FWindow) ||
		i.Promise != 0 && !kind(api.FPush) ||
		len(i.Settings) > 0 && !kind(api.FSettings) ||
		len(i.Data) > 0 && kind(api.FPriority, api.FReset, api.FSettings, api.FWindow)
	if tied {
		return fits && !unsaid && in(i.Weight, 1, 256)
	}
	return fits && !unsaid && i.Weight == 0
}

// modelFaulty is P5.2's list of faults, as far as what fits can have one.
func modelFaulty(i frame.Info) bool {
	switch i.Type {
	case api.FData, api.FContinue:
		return i.Stream == 0
	case api.FHeaders:
		return i.Stream == 0 || i.Priority && i.Dep == i.Stream
	case api.FPriority:
		return i.Stream == 0 || i.Dep == i.Stream
	case api.FReset:
		return i.Stream == 0
	case api.FPush:
		return i.Stream == 0 || i.Promise == 0
	case api.FPing:
		return i.Stream != 0 || len(i.Data) != 8
	case api.FGoAway:
		return i.Stream != 0
	case api.FWindow:
		return i.Inc == 0
	case api.FSettings:
		return i.Stream != 0 || i.Ack && len(i.Settings) > 0 || slices.ContainsFunc(i.Settings, func(s api.Setting) bool {
			return s.ID == api.SPush && s.Value > 1 || s.ID == api.SWindow && s.Value > api.MaxWindow || s.ID == api.SFrame && (s.Value < 16384 || s.Value > 1<<24-1)
		})
	}
	return false
}

// checkOpen holds Open against modelOpen, and Build of what it says against P5.7.
func checkOpen(t *testing.T, f api.Frame) {
	t.Helper()
	want, code, stream := modelOpen(f)
	if code >= 0 {
		refused(t, f, code, stream)
		return
	}
	opens(t, f, want)
	again, err := frame.Build(want)
	if err != nil || again.Type != f.Type || again.Stream != f.Stream || len(again.Payload) != len(f.Payload) {
		t.Errorf("Build of Open of %.200v = %.200v, %v", f, again, err)
	}
	opens(t, again, want)
}

// checkBuild holds Build against modelFits and modelFaulty, and Open of it against P5.6.
func checkBuild(t *testing.T, i frame.Info) bool {
	t.Helper()
	if !modelFits(i) || modelFaulty(i) {
		unbuilt(t, i)
		return false
	}
	f, err := frame.Build(i)
	if err != nil {
		t.Errorf("Build(%+.300v): %v", i, err)
		return false
	}
	opens(t, f, i)
	return true
}
