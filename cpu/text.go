package cpu

import "zoetrope/api"

// textLen is how many bytes a text has: each part is a number, also those that are 0 or 1.
const textLen = (3 + 32 + 3 + 9 + 2*api.Slots) * wordSize

// each goes over the parts of a state in the order of its text, so that what is told and what is taken can't stand in two orders.
func each(c *api.Cpu, word func(*uint32), flag func(*bool)) {
	word(&c.PC)
	word(&c.Next)
	flag(&c.Delay)
	for n := range c.R {
		word(&c.R[n])
	}
	word(&c.Hi)
	word(&c.Lo)
	flag(&c.Link)
	r := &c.C
	for _, v := range [...]*uint32{&r.Index, &r.EntryLo, &r.BadVAddr, &r.Count, &r.EntryHi, &r.Compare, &r.Status, &r.Cause, &r.EPC} {
		word(v)
	}
	for n := range c.T {
		word(&c.T[n].Hi)
		word(&c.T[n].Lo)
	}
}

// Text is its state as bytes, Parse the state of bytes.
func Text(c *api.Cpu) string {
	b := make([]byte, 0, textLen)
	word := func(v *uint32) { b = append(b, byte(*v>>24), byte(*v>>16), byte(*v>>8), byte(*v)) }
	flag := func(yes *bool) {
		v := oneIf(*yes)
		word(&v)
	}
	each(c, word, flag)
	return string(b)
}

func Parse(s string) (api.Cpu, api.Errno) {
	// Checked ahead of all taking, so that the closure never reaches behind the end.
	if len(s) != textLen {
		return api.Cpu{}, api.ErrCpuForm
	}
	at, ok := 0, true
	word := func(v *uint32) {
		*v = uint32(s[at])<<24 | uint32(s[at+1])<<16 | uint32(s[at+2])<<8 | uint32(s[at+3])
		at += wordSize
	}
	flag := func(yes *bool) {
		v := uint32(0)
		word(&v)
		*yes = v == 1
		ok = ok && v <= 1
	}
	c := api.Cpu{}
	each(&c, word, flag)
	if !ok || c.R[0] != 0 {
		return api.Cpu{}, api.ErrCpuForm
	}
	return c, api.OK
}
