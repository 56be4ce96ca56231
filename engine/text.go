package engine

import (
	"zoetrope/api"
	"zoetrope/cpu"
)

// How many bytes of a rest the count has, and how many the processor's state: each part of that is a number. The devices' are the last ones, of which there may be more or less.
const (
	countLen = 2 * wordSize
	cpuLen   = (3 + 32 + 3 + 9 + 2*api.Slots) * wordSize
)

// Rest is all of its state but memory, as bytes; Load makes it another one.
func (m *Machine) Rest() string {
	return countText(m.count) + cpu.Text(&m.c) + m.bus.Devices()
}

func (m *Machine) Load(rest string, pages []string) api.Errno {
	if len(rest) < countLen+cpuLen || !m.mayBePages(pages) {
		return api.ErrEngineForm
	}
	count, ok := parseCount(rest[:countLen])
	c, err := cpu.Parse(rest[countLen : countLen+cpuLen])
	if !ok || err != api.OK {
		return api.ErrEngineForm
	}
	// Last of all that may be refused, since it changes the bus if it is not.
	if m.bus.Set(rest[countLen+cpuLen:]) != api.OK {
		return api.ErrEngineForm
	}
	m.c, m.count = c, count
	for n, s := range pages {
		m.bus.Memory().Put(n, s)
	}
	return api.OK
}

// mayBePages tells whether these are as many pages as memory has, whole ones.
func (m *Machine) mayBePages(pages []string) bool {
	for _, s := range pages {
		if len(s) != api.Page {
			return false
		}
	}
	return len(pages) == m.bus.Memory().Pages()
}

// countText is a count as two numbers of 32 bits, which are one of 64.
func countText(count int) string {
	b := make([]byte, countLen)
	for n := range b {
		b[len(b)-1-n] = byte(count >> (8 * n))
	}
	return string(b)
}

// parseCount is the count whose text s is, if there is one. Reckoned without a sign, so that what is far too great does not go below 0.
func parseCount(s string) (int, bool) {
	count := uint64(0)
	for n := range countLen {
		count = count<<8 | uint64(s[n])
	}
	if count > api.MaxCount {
		return 0, false
	}
	return int(count), true
}
