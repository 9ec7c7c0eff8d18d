package frame

import "parley/api"

// layout is how the frames of a type are made. What read is given, and write adds to, is the payload without Pad and padding.
type layout struct {
	where place
	flags []flag
	read  func(i *Info, b []byte) error
	write func(b []byte, i Info) []byte
}

// layouts is those of all types that are known.
func layouts() map[int]layout {
	end := flag{api.FlagEnd, func(i *Info) *bool { return &i.End }}
	ack := flag{api.FlagAck, func(i *Info) *bool { return &i.Ack }}
	endHeads := flag{api.FlagEndHeads, func(i *Info) *bool { return &i.EndHeads }}
	padded := flag{api.FlagPadded, func(i *Info) *bool { return &i.Padded }}
	priority := flag{api.FlagPriority, func(i *Info) *bool { return &i.Priority }}
	return map[int]layout{
		api.FData:     {onStream, []flag{end, padded}, readData, addData},
		api.FHeaders:  {onStream, []flag{end, endHeads, padded, priority}, readHeaders, addHeaders},
		api.FPriority: {onStream, nil, readPriority, addPriority},
		api.FReset:    {onStream, nil, readReset, addReset},
		api.FSettings: {onConnection, []flag{ack}, readSettings, addSettings},
		api.FPush:     {onStream, []flag{endHeads, padded}, readPush, addPush},
		api.FPing:     {onConnection, []flag{ack}, readPing, addData},
		api.FGoAway:   {onConnection, nil, readGoAway, addGoAway},
		api.FWindow:   {onEither, nil, readWindow, addWindow},
		api.FContinue: {onStream, []flag{endHeads}, readData, addData},
	}
}

// other is the layout of all other types.
func other() layout {
	return layout{onEither, nil, readData, addData}
}

// place is which Stream a frame may have.
type place int

const (
	onEither place = iota
	onStream
	onConnection
)

func (p place) allows(stream int) bool {
	return p == onEither || (p == onStream) == (stream != 0)
}

// flag is a bit of Flags, and where in an Info it is told.
type flag struct {
	bit int
	in  func(*Info) *bool
}

// The numbers of bytes of what payloads are made of.
const (
	depBytes     = 4
	weightBytes  = 1
	idBytes      = 2
	valueBytes   = 4
	lastBytes    = 4
	codeBytes    = 4
	incBytes     = 4
	promiseBytes = 4
	pingBytes    = 8

	priorityBytes = depBytes + weightBytes
	settingBytes  = idBytes + valueBytes
	goAwayBytes   = lastBytes + codeBytes
)

const (
	alone      = 1 << 31 // the bit of Dep's bytes that tells Alone
	leastFrame = 1 << 14 // what SFrame may be at least
)

func readData(i *Info, b []byte) error {
	i.Data = b
	return nil
}

func addData(b []byte, i Info) []byte {
	return append(b, i.Data...)
}

func readHeaders(i *Info, b []byte) error {
	if !i.Priority {
		return readData(i, b)
	}
	if len(b) < priorityBytes {
		return fault(api.CSize, 0)
	}
	i.Data = b[priorityBytes:]
	return dependence(i, b)
}

func addHeaders(b []byte, i Info) []byte {
	if i.Priority {
		b = addPriority(b, i)
	}
	return addData(b, i)
}

func readPriority(i *Info, b []byte) error {
	if len(b) != priorityBytes {
		return fault(api.CSize, i.Stream)
	}
	return dependence(i, b)
}

func addPriority(b []byte, i Info) []byte {
	dep := i.Dep
	if i.Alone {
		dep |= alone
	}
	b = addNumber(b, dep, depBytes)
	return addNumber(b, i.Weight-1, weightBytes)
}

// dependence reads what addPriority writes.
func dependence(i *Info, b []byte) error {
	i.Dep = streamNumber(b[:depBytes])
	i.Alone = number(b[:depBytes])&alone != 0
	i.Weight = number(b[depBytes:priorityBytes]) + 1
	if i.Dep == i.Stream {
		return fault(api.CProtocol, i.Stream)
	}
	return nil
}

func readReset(i *Info, b []byte) error {
	if len(b) != codeBytes {
		return fault(api.CSize, 0)
	}
	i.Code = number(b)
	return nil
}

func addReset(b []byte, i Info) []byte {
	return addNumber(b, i.Code, codeBytes)
}

func readSettings(i *Info, b []byte) error {
	if len(b)%settingBytes != 0 || i.Ack && len(b) > 0 {
		return fault(api.CSize, 0)
	}
	i.Settings = make([]api.Setting, 0, len(b)/settingBytes)
	for ; len(b) > 0; b = b[settingBytes:] {
		s := api.Setting{ID: number(b[:idBytes]), Value: number(b[idBytes:settingBytes])}
		if code := settingFault(s); code != api.CNone {
			return fault(code, 0)
		}
		i.Settings = append(i.Settings, s)
	}
	return nil
}

// settingFault is the code of what is wrong with s, or CNone.
func settingFault(s api.Setting) int {
	switch {
	case s.ID == api.SPush && s.Value > 1:
		return api.CProtocol
	case s.ID == api.SWindow && s.Value > api.MaxWindow:
		return api.CFlow
	case s.ID == api.SFrame && (s.Value < leastFrame || s.Value >= endless):
		return api.CProtocol
	}
	return api.CNone
}

func addSettings(b []byte, i Info) []byte {
	for _, s := range i.Settings {
		b = addNumber(b, s.ID, idBytes)
		b = addNumber(b, s.Value, valueBytes)
	}
	return b
}

func readPush(i *Info, b []byte) error {
	if len(b) < promiseBytes {
		return fault(api.CSize, 0)
	}
	i.Promise = streamNumber(b[:promiseBytes])
	if i.Promise == 0 {
		return fault(api.CProtocol, 0)
	}
	return readData(i, b[promiseBytes:])
}

func addPush(b []byte, i Info) []byte {
	return addData(addNumber(b, i.Promise, promiseBytes), i)
}

func readPing(i *Info, b []byte) error {
	if len(b) != pingBytes {
		return fault(api.CSize, 0)
	}
	return readData(i, b)
}

func readGoAway(i *Info, b []byte) error {
	if len(b) < goAwayBytes {
		return fault(api.CSize, 0)
	}
	i.Last = streamNumber(b[:lastBytes])
	i.Code = number(b[lastBytes:goAwayBytes])
	return readData(i, b[goAwayBytes:])
}

func addGoAway(b []byte, i Info) []byte {
	b = addNumber(b, i.Last, lastBytes)
	b = addNumber(b, i.Code, codeBytes)
	return addData(b, i)
}

func readWindow(i *Info, b []byte) error {
	if len(b) != incBytes {
		return fault(api.CSize, 0)
	}
	i.Inc = streamNumber(b)
	if i.Inc == 0 {
		return fault(api.CProtocol, i.Stream)
	}
	return nil
}

func addWindow(b []byte, i Info) []byte {
	return addNumber(b, i.Inc, incBytes)
}
