package frame_test

import (
	"bytes"
	"testing"

	"parley/api"
	"parley/frame"
)

// TestOpenExamples: P5.2, the chapter's examples.
func TestOpenExamples(t *testing.T) {
	opens(t, api.Frame{Type: api.FData, Flags: api.FlagEnd | api.FlagPadded, Stream: 3, Payload: []byte{2, 65, 0, 0}},
		frame.Info{Type: api.FData, Stream: 3, End: true, Padded: true, Pad: 2, Data: []byte("A")})
	opens(t, api.Frame{Type: api.FData, Flags: api.FlagPadded, Stream: 3, Payload: []byte{2, 65, 0}},
		frame.Info{Type: api.FData, Stream: 3, Padded: true, Pad: 2})
	refused(t, api.Frame{Type: api.FData, Payload: []byte("A")}, api.CProtocol, 0)
	refused(t, api.Frame{Type: api.FPriority, Stream: 3, Payload: make([]byte, 4)}, api.CSize, 3)
	refused(t, api.Frame{Type: api.FWindow, Stream: 5, Payload: make([]byte, 4)}, api.CProtocol, 5)
	refused(t, api.Frame{Type: api.FPing, Payload: make([]byte, 7)}, api.CSize, 0)
	refused(t, api.Frame{Type: api.FSettings, Payload: []byte{0, 4, 128, 0, 0, 0}}, api.CFlow, 0)
	opens(t, api.Frame{Type: api.FHeaders, Flags: api.FlagPriority, Stream: 3, Payload: []byte{128, 0, 0, 1, 15, 9}},
		frame.Info{Type: api.FHeaders, Stream: 3, Priority: true, Alone: true, Dep: 1, Weight: 16, Data: []byte{9}})
}

// said is a frame, and what it says.
type said struct {
	f api.Frame
	i frame.Info
}

// samples are frames that Build makes of what they say, of each type, with its numbers at their edges.
func samples() []said {
	full := []byte{255, 255, 255, 255}
	return []said{
		{api.Frame{Stream: 1}, frame.Info{Stream: 1}},
		{api.Frame{Flags: 1, Stream: api.MaxStream, Payload: []byte("abc")}, frame.Info{Stream: api.MaxStream, End: true, Data: []byte("abc")}},
		{api.Frame{Flags: 8, Stream: 1, Payload: []byte{0}}, frame.Info{Stream: 1, Padded: true}},
		{api.Frame{Flags: 9, Stream: 1, Payload: []byte{0, 7}}, frame.Info{Stream: 1, End: true, Padded: true, Data: []byte{7}}},
		{api.Frame{Flags: 8, Stream: 1, Payload: join([]byte{255, 7}, run(255, 0))}, frame.Info{Stream: 1, Padded: true, Pad: 255, Data: []byte{7}}},
		{api.Frame{Flags: 8, Stream: 1, Payload: []byte{1, 0}}, frame.Info{Stream: 1, Padded: true, Pad: 1}},

		{api.Frame{Type: 1, Stream: 1}, frame.Info{Type: 1, Stream: 1}},
		{api.Frame{Type: 1, Flags: 5, Stream: 2, Payload: []byte{130}}, frame.Info{Type: 1, Stream: 2, End: true, EndHeads: true, Data: []byte{130}}},
		{api.Frame{Type: 1, Flags: 4, Stream: 2, Payload: []byte{130}}, frame.Info{Type: 1, Stream: 2, EndHeads: true, Data: []byte{130}}},
		{api.Frame{Type: 1, Flags: 8, Stream: 1, Payload: []byte{1, 9, 0}}, frame.Info{Type: 1, Stream: 1, Padded: true, Pad: 1, Data: []byte{9}}},
		{api.Frame{Type: 1, Flags: 32, Stream: 1, Payload: []byte{0, 0, 0, 0, 0}}, frame.Info{Type: 1, Stream: 1, Priority: true, Weight: 1}},
		{api.Frame{Type: 1, Flags: 32, Stream: 1, Payload: join(full, []byte{255, 9})}, frame.Info{Type: 1, Stream: 1, Priority: true, Alone: true, Dep: api.MaxStream, Weight: 256, Data: []byte{9}}},
		{api.Frame{Type: 1, Flags: 40, Stream: 1, Payload: []byte{0, 1, 2, 3, 4, 5}}, frame.Info{Type: 1, Stream: 1, Padded: true, Priority: true, Dep: 0x01020304, Weight: 6}},
		{api.Frame{Type: 1, Flags: 45, Stream: 5, Payload: []byte{2, 128, 0, 0, 7, 254, 8, 9, 0, 0}}, frame.Info{Type: 1, Stream: 5, End: true, EndHeads: true, Padded: true, Priority: true, Alone: true, Pad: 2, Dep: 7, Weight: 255, Data: []byte{8, 9}}},

		{api.Frame{Type: 2, Stream: 3, Payload: []byte{0, 0, 0, 0, 0}}, frame.Info{Type: 2, Stream: 3, Weight: 1}},
		{api.Frame{Type: 2, Stream: 3, Payload: []byte{127, 255, 255, 255, 255}}, frame.Info{Type: 2, Stream: 3, Dep: api.MaxStream, Weight: 256}},
		{api.Frame{Type: 2, Stream: 3, Payload: []byte{128, 0, 0, 0, 1}}, frame.Info{Type: 2, Stream: 3, Alone: true, Weight: 2}},

		{api.Frame{Type: 3, Stream: 3, Payload: []byte{0, 0, 0, 0}}, frame.Info{Type: 3, Stream: 3}},
		{api.Frame{Type: 3, Stream: 3, Payload: []byte{1, 2, 3, 4}}, frame.Info{Type: 3, Stream: 3, Code: 0x01020304}},
		{api.Frame{Type: 3, Stream: 3, Payload: full}, frame.Info{Type: 3, Stream: 3, Code: 1<<32 - 1}},

		{api.Frame{Type: 4}, frame.Info{Type: 4}},
		{api.Frame{Type: 4, Flags: 1}, frame.Info{Type: 4, Ack: true}},
		{api.Frame{Type: 4, Payload: []byte{0, 0, 0, 0, 0, 0, 255, 255, 255, 255, 255, 255}}, frame.Info{Type: 4, Settings: []api.Setting{{}, {ID: 65535, Value: 1<<32 - 1}}}},
		{api.Frame{Type: 4, Payload: []byte{0, 1, 1, 2, 3, 4, 1, 4, 255, 255, 255, 255, 0, 1, 0, 0, 0, 0}}, frame.Info{Type: 4, Settings: []api.Setting{{ID: 1, Value: 0x01020304}, {ID: 260, Value: 1<<32 - 1}, {ID: 1}}}},

		{api.Frame{Type: 5, Stream: 1, Payload: []byte{0, 0, 0, 1}}, frame.Info{Type: 5, Stream: 1, Promise: 1}},
		{api.Frame{Type: 5, Flags: 4, Stream: 1, Payload: []byte{127, 255, 255, 255, 9}}, frame.Info{Type: 5, Stream: 1, EndHeads: true, Promise: api.MaxStream, Data: []byte{9}}},
		{api.Frame{Type: 5, Flags: 12, Stream: 1, Payload: []byte{1, 1, 2, 3, 4, 9, 0}}, frame.Info{Type: 5, Stream: 1, EndHeads: true, Padded: true, Pad: 1, Promise: 0x01020304, Data: []byte{9}}},
		{api.Frame{Type: 5, Flags: 8, Stream: 1, Payload: []byte{0, 0, 0, 0, 2}}, frame.Info{Type: 5, Stream: 1, Padded: true, Promise: 2}},

		{api.Frame{Type: 6, Payload: []byte("12345678")}, frame.Info{Type: 6, Data: []byte("12345678")}},
		{api.Frame{Type: 6, Flags: 1, Payload: make([]byte, 8)}, frame.Info{Type: 6, Ack: true, Data: make([]byte, 8)}},

		{api.Frame{Type: 7, Payload: make([]byte, 8)}, frame.Info{Type: 7}},
		{api.Frame{Type: 7, Payload: []byte{127, 255, 255, 255, 255, 255, 255, 255, 88}}, frame.Info{Type: 7, Last: api.MaxStream, Code: 1<<32 - 1, Data: []byte("X")}},
		{api.Frame{Type: 7, Payload: []byte{1, 2, 3, 4, 5, 6, 7, 8}}, frame.Info{Type: 7, Last: 0x01020304, Code: 0x05060708}},

		{api.Frame{Type: 8, Payload: []byte{0, 0, 0, 1}}, frame.Info{Type: 8, Inc: 1}},
		{api.Frame{Type: 8, Stream: 6, Payload: []byte{127, 255, 255, 255}}, frame.Info{Type: 8, Stream: 6, Inc: api.MaxStream}},

		{api.Frame{Type: 9, Stream: 5}, frame.Info{Type: 9, Stream: 5}},
		{api.Frame{Type: 9, Flags: 4, Stream: 5, Payload: []byte{1, 2}}, frame.Info{Type: 9, Stream: 5, EndHeads: true, Data: []byte{1, 2}}},

		{api.Frame{Type: 10}, frame.Info{Type: 10}},
		{api.Frame{Type: 77, Flags: 200, Stream: 4, Payload: []byte{1}}, frame.Info{Type: 77, Flags: 200, Stream: 4, Data: []byte{1}}},
		{api.Frame{Type: 255, Flags: 255, Stream: api.MaxStream, Payload: []byte{255, 0}}, frame.Info{Type: 255, Flags: 255, Stream: api.MaxStream, Data: []byte{255, 0}}},
	}
}

// TestOpenSamples: P5.2, what a frame of each type says.
func TestOpenSamples(t *testing.T) {
	for _, x := range samples() {
		opens(t, x.f, x.i)
	}
}

// TestOpenFlags: P5.2, flags that are not named are not looked at; those of other types are told as they stand.
func TestOpenFlags(t *testing.T) {
	named := map[int]int{
		api.FData: 1 | 8, api.FHeaders: 1 | 4 | 8 | 32, api.FPriority: 0, api.FReset: 0, api.FSettings: 1,
		api.FPush: 4 | 8, api.FPing: 1, api.FGoAway: 0, api.FWindow: 0, api.FContinue: 4,
	}
	for _, x := range samples() {
		mask, known := named[x.f.Type]
		for more := range 256 {
			f, want := x.f, x.i
			if !known {
				f.Flags, want.Flags = more, more
			} else {
				f.Flags |= more &^ mask
			}
			opens(t, f, want)
		}
	}
}

// TestOpenUnread: P5.2, the greatest bits of Promise, Last, Inc are not looked at, nor is what stands in the padding.
func TestOpenUnread(t *testing.T) {
	for _, x := range samples() {
		f := x.f
		f.Payload = bytes.Clone(f.Payload)
		at := 0
		if x.i.Padded {
			at = 1
		}
		switch f.Type {
		case api.FPush, api.FGoAway, api.FWindow:
			f.Payload[at] |= 128
		}
		for n := range x.i.Pad {
			f.Payload[len(f.Payload)-1-n] = 201
		}
		opens(t, f, x.i)
	}
}

// TestOpenStreams: P5.2, 1: Stream, ahead of all other faults.
func TestOpenStreams(t *testing.T) {
	for kind := range 12 {
		for _, stream := range []int{0, 1, 2, api.MaxStream} {
			for _, flags := range []int{0, 1, 8, 40} {
				for n := range 10 {
					f := api.Frame{Type: kind, Flags: flags, Stream: stream, Payload: make([]byte, n)}
					switch kind {
					case api.FData, api.FHeaders, api.FPriority, api.FReset, api.FPush, api.FContinue:
						if stream == 0 {
							refused(t, f, api.CProtocol, 0)
						}
					case api.FSettings, api.FPing, api.FGoAway:
						if stream != 0 {
							refused(t, f, api.CProtocol, 0)
						}
					}
					checkOpen(t, f)
				}
			}
		}
	}
}

// TestOpenSizes: P5.2, 2: how many bytes a payload may have.
func TestOpenSizes(t *testing.T) {
	for n := range 40 {
		b := run(n, 1)
		for _, x := range []struct {
			kind, flags, stream int
			may                 bool
			faulty              int
		}{
			{api.FReset, 0, 3, n == 4, 0},
			{api.FWindow, 0, 0, n == 4, 0},
			{api.FWindow, 0, 3, n == 4, 0},
			{api.FPing, 0, 0, n == 8, 0},
			{api.FPing, 1, 0, n == 8, 0},
			{api.FSettings, 1, 0, n == 0, 0},
			{api.FSettings, 0, 0, n%6 == 0, 0},
			{api.FSettings, 254, 0, n%6 == 0, 0},
			{api.FGoAway, 0, 0, n >= 8, 0},
			{api.FPriority, 0, 3, n == 5, 3},
			{api.FPriority, 0, api.MaxStream, n == 5, api.MaxStream},
			{api.FHeaders, api.FlagPriority, 3, n >= 5, 0},
			{api.FPush, 0, 3, n >= 4, 0},
			{api.FHeaders, api.FlagPriority | api.FlagPadded, 3, n >= 7, 0},
			{api.FPush, api.FlagPadded, 3, n >= 6, 0},
		} {
			f := api.Frame{Type: x.kind, Flags: x.flags, Stream: x.stream, Payload: b}
			_, err := frame.Open(f)
			switch {
			case x.may && err != nil:
				t.Errorf("Open(%v): %v", f, err)
			case !x.may && n == 1 && x.flags&api.FlagPadded != 0 && x.kind != api.FPriority && x.kind != api.FSettings:
				refused(t, f, api.CProtocol, 0) // Pad is 1, as is the number of bytes
			case !x.may:
				refused(t, f, api.CSize, x.faulty)
			}
		}
	}
}

// TestOpenPadding: P5.2, 3: Pad is below the number of the payload's bytes.
func TestOpenPadding(t *testing.T) {
	for _, kind := range []int{api.FData, api.FHeaders} {
		refused(t, api.Frame{Type: kind, Flags: 8, Stream: 1}, api.CSize, 0)
		for n := 1; n < 300; n++ {
			for _, pad := range []int{0, 1, n - 2, n - 1, n, n + 1, 255} {
				if pad < 0 || pad > 255 {
					continue
				}
				f := api.Frame{Type: kind, Flags: 8, Stream: 1, Payload: run(n, 7)}
				f.Payload[0] = byte(pad)
				if pad >= n {
					refused(t, f, api.CProtocol, 0)
				} else {
					opens(t, f, frame.Info{Type: kind, Stream: 1, Padded: true, Pad: pad, Data: run(n-1-pad, 7)})
				}
			}
		}
	}
}

// TestOpenOrder: P5.2, which fault goes first, where two hold.
func TestOpenOrder(t *testing.T) {
	for name, x := range map[string]struct {
		f            api.Frame
		code, stream int
	}{
		"Stream ahead of the size":              {api.Frame{Type: api.FPriority, Payload: make([]byte, 4)}, api.CProtocol, 0},
		"Stream ahead of the size, of Ping":     {api.Frame{Type: api.FPing, Stream: 1, Payload: make([]byte, 4)}, api.CProtocol, 0},
		"Stream ahead of the size, of settings": {api.Frame{Type: api.FSettings, Stream: 1, Payload: make([]byte, 4)}, api.CProtocol, 0},
		"Stream ahead of no Pad":                {api.Frame{Type: api.FData, Flags: 8}, api.CProtocol, 0},
		"Stream ahead of a setting":             {api.Frame{Type: api.FSettings, Stream: 1, Payload: []byte{0, 4, 255, 0, 0, 0}}, api.CProtocol, 0},
		"the size ahead of a setting":           {api.Frame{Type: api.FSettings, Payload: []byte{0, 4, 255, 0, 0, 0, 0}}, api.CSize, 0},
		"Ack's size ahead of a setting":         {api.Frame{Type: api.FSettings, Flags: 1, Payload: []byte{0, 4, 255, 0, 0, 0}}, api.CSize, 0},
		"the size ahead of Dep":                 {api.Frame{Type: api.FPriority, Stream: 3, Payload: []byte{0, 0, 0, 3, 1, 1}}, api.CSize, 3},
		"the size ahead of Inc":                 {api.Frame{Type: api.FWindow, Stream: 3, Payload: make([]byte, 5)}, api.CSize, 0},
		"Pad ahead of too little for Priority":  {api.Frame{Type: api.FHeaders, Flags: 40, Stream: 3, Payload: []byte{4, 0, 0}}, api.CProtocol, 0},
		"no Pad ahead of too little for it":     {api.Frame{Type: api.FHeaders, Flags: 40, Stream: 3}, api.CSize, 0},
		"Pad ahead of Promise":                  {api.Frame{Type: api.FPush, Flags: 8, Stream: 3, Payload: []byte{9, 0, 0, 0, 0}}, api.CProtocol, 0},
		"too little between, for Priority":      {api.Frame{Type: api.FHeaders, Flags: 40, Stream: 3, Payload: []byte{1, 0, 0, 0, 3, 1}}, api.CSize, 0},
		"too little between, for Promise":       {api.Frame{Type: api.FPush, Flags: 8, Stream: 3, Payload: []byte{1, 0, 0, 0, 1}}, api.CSize, 0},
		"nothing between, for Promise":          {api.Frame{Type: api.FPush, Flags: 8, Stream: 3, Payload: []byte{0}}, api.CSize, 0},
		"Dep is Stream":                         {api.Frame{Type: api.FHeaders, Flags: 32, Stream: 3, Payload: []byte{0, 0, 0, 3, 1}}, api.CProtocol, 3},
		"Dep is Stream, padded":                 {api.Frame{Type: api.FHeaders, Flags: 40, Stream: 3, Payload: []byte{1, 0, 0, 0, 3, 1, 0}}, api.CProtocol, 3},
		"Dep is Stream, Alone":                  {api.Frame{Type: api.FHeaders, Flags: 32, Stream: 3, Payload: []byte{128, 0, 0, 3, 1, 9}}, api.CProtocol, 3},
		"Dep is the greatest Stream":            {api.Frame{Type: api.FPriority, Stream: api.MaxStream, Payload: run(5, 255)}, api.CProtocol, api.MaxStream},
		"Promise is 0":                          {api.Frame{Type: api.FPush, Stream: 3, Payload: make([]byte, 4)}, api.CProtocol, 0},
		"Promise is 0 but for its greatest bit": {api.Frame{Type: api.FPush, Stream: 3, Payload: []byte{128, 0, 0, 0, 1}}, api.CProtocol, 0},
		"Inc is 0":                              {api.Frame{Type: api.FWindow, Stream: 3, Payload: make([]byte, 4)}, api.CProtocol, 3},
		"Inc is 0, of the connection":           {api.Frame{Type: api.FWindow, Payload: make([]byte, 4)}, api.CProtocol, 0},
		"Inc is 0 but for its greatest bit":     {api.Frame{Type: api.FWindow, Stream: 3, Payload: []byte{128, 0, 0, 0}}, api.CProtocol, 3},
		"the first setting, of two":             {api.Frame{Type: api.FSettings, Payload: []byte{0, 4, 255, 0, 0, 0, 0, 2, 0, 0, 0, 2}}, api.CFlow, 0},
		"the first setting, the other way":      {api.Frame{Type: api.FSettings, Payload: []byte{0, 2, 0, 0, 0, 2, 0, 4, 255, 0, 0, 0}}, api.CProtocol, 0},
		"a setting behind good ones":            {api.Frame{Type: api.FSettings, Payload: []byte{0, 2, 0, 0, 0, 1, 0, 9, 255, 0, 0, 0, 0, 5, 0, 0, 0, 1}}, api.CProtocol, 0},
	} {
		t.Run(name, func(t *testing.T) { refused(t, x.f, x.code, x.stream) })
	}
	opens(t, api.Frame{Type: api.FHeaders, Stream: 3, Payload: []byte{0, 0, 0, 3, 1}}, frame.Info{Type: api.FHeaders, Stream: 3, Data: []byte{0, 0, 0, 3, 1}})
	opens(t, api.Frame{Type: api.FPush, Stream: 3, Payload: []byte{0, 0, 0, 3}}, frame.Info{Type: api.FPush, Stream: 3, Promise: 3})
}

// TestOpenSettings: P5.2, 7: what each setting may be, at its edges.
func TestOpenSettings(t *testing.T) {
	for _, x := range []struct{ id, value, code int }{
		{0, 1<<32 - 1, -1}, {api.STable, 0, -1}, {api.STable, 1<<32 - 1, -1},
		{api.SPush, 0, -1}, {api.SPush, 1, -1}, {api.SPush, 2, api.CProtocol}, {api.SPush, 1 << 31, api.CProtocol}, {api.SPush, 1<<32 - 1, api.CProtocol},
		{api.SStreams, 0, -1}, {api.SStreams, 1<<32 - 1, -1},
		{api.SWindow, 0, -1}, {api.SWindow, 1<<31 - 1, -1}, {api.SWindow, 1 << 31, api.CFlow}, {api.SWindow, 1<<32 - 1, api.CFlow},
		{api.SFrame, 0, api.CProtocol}, {api.SFrame, 16383, api.CProtocol}, {api.SFrame, 16384, -1}, {api.SFrame, 1<<24 - 1, -1}, {api.SFrame, 1 << 24, api.CProtocol}, {api.SFrame, 1<<32 - 1, api.CProtocol},
		{api.SList, 0, -1}, {api.SList, 1<<32 - 1, -1}, {7, 1<<32 - 1, -1},
		{256 + api.SPush, 2, -1}, {256 + api.SWindow, 1 << 31, -1}, {256 + api.SFrame, 0, -1}, {65535, 2, -1},
	} {
		for ahead := range 3 {
			b := bytes.Repeat([]byte{0, 3, 0, 0, 0, 9}, ahead)
			b = append(b, byte(x.id>>8), byte(x.id), byte(x.value>>24), byte(x.value>>16), byte(x.value>>8), byte(x.value))
			want := frame.Info{Type: api.FSettings}
			for range ahead {
				want.Settings = append(want.Settings, api.Setting{ID: 3, Value: 9})
			}
			want.Settings = append(want.Settings, api.Setting{ID: x.id, Value: x.value})
			if f := (api.Frame{Type: api.FSettings, Payload: b}); x.code < 0 {
				opens(t, f, want)
			} else {
				refused(t, f, x.code, 0)
			}
			if x.code < 0 {
				builds(t, want, api.Frame{Type: api.FSettings, Payload: b})
			} else {
				unbuilt(t, want)
			}
		}
	}
}

// TestOpenOutside: P0.1, frames whose numbers no bytes can tell: they are looked at as they stand.
func TestOpenOutside(t *testing.T) {
	for _, n := range []int{-greatest - 1, -1, 256, 1 << 31, 1 << 32, greatest} {
		opens(t, api.Frame{Type: n, Flags: n, Stream: n, Payload: []byte{7}}, frame.Info{Type: n, Flags: n, Stream: n, Data: []byte{7}})
		opens(t, api.Frame{Type: api.FContinue, Stream: n, Payload: []byte{7}}, frame.Info{Type: api.FContinue, Stream: n, Data: []byte{7}})
		refused(t, api.Frame{Type: api.FGoAway, Stream: n, Payload: make([]byte, 8)}, api.CProtocol, 0)
		refused(t, api.Frame{Type: api.FWindow, Stream: n, Payload: make([]byte, 4)}, api.CProtocol, n)
	}
	opens(t, api.Frame{Type: 10, Payload: make([]byte, 1<<24)}, frame.Info{Type: 10, Data: make([]byte, 1<<24)})
}
