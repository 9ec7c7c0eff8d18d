package frame_test

import (
	"reflect"
	"slices"
	"testing"

	"parley/api"
	"parley/frame"
)

// TestBuildSamples: P5.3, the frame that says it, its padding 0.
func TestBuildSamples(t *testing.T) {
	for _, x := range samples() {
		builds(t, x.i, x.f)
	}
}

// saidBy names the fields of Info that a type says; those of the last rows hang on Padded and Priority.
func saidBy(i frame.Info) []string {
	fields := map[int][]string{
		api.FData:     {"End", "Padded", "Data"},
		api.FHeaders:  {"End", "EndHeads", "Padded", "Priority", "Data"},
		api.FPriority: {"Alone", "Dep", "Weight"},
		api.FReset:    {"Code"},
		api.FSettings: {"Ack", "Settings"},
		api.FPush:     {"EndHeads", "Padded", "Promise", "Data"},
		api.FPing:     {"Ack", "Data"},
		api.FGoAway:   {"Last", "Code", "Data"},
		api.FWindow:   {"Inc"},
		api.FContinue: {"EndHeads", "Data"},
	}
	out, known := fields[i.Type]
	if !known {
		out = []string{"Flags", "Data"}
	}
	if i.Padded {
		out = append(out, "Pad")
	}
	if i.Priority {
		out = append(out, "Alone", "Dep", "Weight")
	}
	return append(out, "Type", "Stream")
}

// TestBuildUnsaid: P5.3, nothing that a frame does not say may be other than zero.
func TestBuildUnsaid(t *testing.T) {
	tried := 0
	for _, x := range samples() {
		names := saidBy(x.i)
		for n := range reflect.TypeFor[frame.Info]().NumField() {
			name := reflect.TypeFor[frame.Info]().Field(n).Name
			if slices.Contains(names, name) {
				continue
			}
			for _, i := range otherwise(x.i, n) {
				unbuilt(t, i)
				tried++
			}
		}
	}
	if tried < 500 {
		t.Errorf("only %d tried", tried)
	}
}

// otherwise is i with its n-th field, which is zero, set to some other values.
func otherwise(i frame.Info, n int) []frame.Info {
	var out []frame.Info
	set := func(v any) {
		changed := i
		reflect.ValueOf(&changed).Elem().Field(n).Set(reflect.ValueOf(v))
		out = append(out, changed)
	}
	switch reflect.TypeFor[frame.Info]().Field(n).Type.Kind() {
	case reflect.Bool:
		set(true)
	case reflect.Int:
		for _, v := range []int{-greatest - 1, -1, 1, 2, 8, 256, 1 << 31, 1 << 32, greatest} {
			set(v)
		}
	default:
		if reflect.TypeFor[frame.Info]().Field(n).Name == "Data" {
			set([]byte{0})
		} else {
			set([]api.Setting{{}})
		}
	}
	return out
}

// TestBuildNumbers: P5.3, each number fits, or does not.
func TestBuildNumbers(t *testing.T) {
	wide := []int{-greatest - 1, -1 << 32, -256, -1, 0, 1, 2, 255, 256, 257, 65535, 65536, 1<<31 - 1, 1 << 31, 1<<31 + 1, 1<<32 - 1, 1 << 32, 1<<32 + 1, 1<<40 + 1, greatest}
	builders := map[string]struct {
		least, most int
		make        func(n int) frame.Info
	}{
		"Stream of data":     {1, api.MaxStream, func(n int) frame.Info { return frame.Info{Stream: n} }},
		"Stream of a window": {0, api.MaxStream, func(n int) frame.Info { return frame.Info{Type: 8, Stream: n, Inc: 1} }},
		"Stream of others":   {0, api.MaxStream, func(n int) frame.Info { return frame.Info{Type: 10, Stream: n} }},
		"Stream of ping":     {0, 0, func(n int) frame.Info { return frame.Info{Type: 6, Stream: n, Data: make([]byte, 8)} }},
		"Flags of others":    {0, 255, func(n int) frame.Info { return frame.Info{Type: 10, Flags: n} }},
		"Flags of data":      {0, 0, func(n int) frame.Info { return frame.Info{Stream: 3, Flags: n} }},
		"Flags of settings":  {0, 0, func(n int) frame.Info { return frame.Info{Type: 4, Ack: true, Flags: n} }},
		"Pad of data":        {0, 255, func(n int) frame.Info { return frame.Info{Stream: 3, Padded: true, Pad: n} }},
		"Pad of headers":     {0, 255, func(n int) frame.Info { return frame.Info{Type: 1, Stream: 3, Padded: true, Pad: n} }},
		"Pad of push":        {0, 255, func(n int) frame.Info { return frame.Info{Type: 5, Stream: 3, Promise: 2, Padded: true, Pad: n} }},
		"Pad without Padded": {0, 0, func(n int) frame.Info { return frame.Info{Stream: 3, Pad: n} }},
		"Weight":             {1, 256, func(n int) frame.Info { return frame.Info{Type: 2, Stream: 3, Weight: n} }},
		"Weight of headers":  {1, 256, func(n int) frame.Info { return frame.Info{Type: 1, Stream: 3, Priority: true, Weight: n} }},
		"Weight of none":     {0, 0, func(n int) frame.Info { return frame.Info{Type: 1, Stream: 3, Weight: n} }},
		"Dep":                {0, api.MaxStream, func(n int) frame.Info { return frame.Info{Type: 2, Stream: 3, Weight: 1, Dep: n} }},
		"Dep, Alone":         {0, api.MaxStream, func(n int) frame.Info { return frame.Info{Type: 2, Stream: 3, Weight: 1, Alone: true, Dep: n} }},
		"Dep of headers":     {0, api.MaxStream, func(n int) frame.Info { return frame.Info{Type: 1, Stream: 3, Priority: true, Weight: 1, Dep: n} }},
		"Dep of none":        {0, 0, func(n int) frame.Info { return frame.Info{Type: 1, Stream: 3, Dep: n} }},
		"Code of reset":      {0, 1<<32 - 1, func(n int) frame.Info { return frame.Info{Type: 3, Stream: 3, Code: n} }},
		"Code of goaway":     {0, 1<<32 - 1, func(n int) frame.Info { return frame.Info{Type: 7, Code: n} }},
		"Last":               {0, api.MaxStream, func(n int) frame.Info { return frame.Info{Type: 7, Last: n} }},
		"Promise":            {1, api.MaxStream, func(n int) frame.Info { return frame.Info{Type: 5, Stream: 3, Promise: n} }},
		"Inc":                {1, api.MaxStream, func(n int) frame.Info { return frame.Info{Type: 8, Inc: n} }},
		"Inc of a stream":    {1, api.MaxStream, func(n int) frame.Info { return frame.Info{Type: 8, Stream: 3, Inc: n} }},
		"ID":                 {0, 65535, func(n int) frame.Info { return frame.Info{Type: 4, Settings: []api.Setting{{ID: n, Value: 1}}} }},
		"ID behind another":  {0, 65535, func(n int) frame.Info { return frame.Info{Type: 4, Settings: []api.Setting{{}, {ID: n}}} }},
		"Value":              {0, 1<<32 - 1, func(n int) frame.Info { return frame.Info{Type: 4, Settings: []api.Setting{{ID: 9, Value: n}}} }},
	}
	for name, x := range builders {
		for _, n := range append(wide, x.least, x.most) {
			i := x.make(n)
			f, err := frame.Build(i)
			if may := n >= x.least && n <= x.most; may != (err == nil) || !may && (err != api.ErrFrame || !sameFrame(f, api.Frame{})) {
				t.Errorf("%s: Build(%+v) = %.60v, %v", name, i, f, err)
			}
			checkBuild(t, i)
		}
	}
}

// TestBuildTypes: P5.3, every type from 0 to 255, and none beside.
func TestBuildTypes(t *testing.T) {
	for kind := api.FContinue + 1; kind < 256; kind++ {
		builds(t, frame.Info{Type: kind, Flags: kind, Stream: kind, Data: []byte{byte(kind)}},
			api.Frame{Type: kind, Flags: kind, Stream: kind, Payload: []byte{byte(kind)}})
	}
	for _, kind := range []int{-greatest - 1, -256, -1, 256, 257, 1 << 32, greatest} {
		unbuilt(t, frame.Info{Type: kind})
		unbuilt(t, frame.Info{Type: kind, Stream: 3})
	}
}

// TestBuildFaults: P5.3, what Open would have a fault for.
func TestBuildFaults(t *testing.T) {
	for _, i := range []frame.Info{
		{}, {Type: 1}, {Type: 2, Weight: 1, Dep: 1}, {Type: 3}, {Type: 5, Promise: 2}, {Type: 9}, // no Stream
		{Type: 4, Stream: 1}, {Type: 4, Stream: 1, Ack: true}, {Type: 6, Stream: 1, Data: make([]byte, 8)}, {Type: 7, Stream: 1},
		{Type: 6}, {Type: 6, Data: make([]byte, 7)}, {Type: 6, Data: make([]byte, 9)}, {Type: 6, Ack: true, Data: make([]byte, 16)},
		{Type: 4, Ack: true, Settings: []api.Setting{{ID: 9}}},
		{Type: 2, Stream: 1, Weight: 1, Dep: 1}, {Type: 2, Stream: 1, Weight: 1, Dep: 1, Alone: true},
		{Type: 1, Stream: 1, Priority: true, Weight: 1, Dep: 1}, {Type: 1, Stream: 7, Priority: true, Weight: 1, Dep: 7, Padded: true},
		{Type: 5, Stream: 1}, {Type: 5, Stream: 1, Padded: true, Pad: 4, Data: []byte{1, 2, 3, 4}},
		{Type: 8}, {Type: 8, Stream: 1},
		{Type: 4, Settings: []api.Setting{{ID: 2, Value: 2}}}, {Type: 4, Settings: []api.Setting{{ID: 4, Value: 1 << 31}}},
		{Type: 4, Settings: []api.Setting{{ID: 1}, {ID: 5, Value: 16383}}}, {Type: 4, Settings: []api.Setting{{ID: 5, Value: 1 << 24}, {ID: 1}}},
	} {
		unbuilt(t, i)
	}
}
