package cpu

import (
	"encoding/binary"
	"math/rand"
	"strings"
	"testing"

	"zoetrope/api"
)

// plainText is a state's text, part by part as the chapter names them.
func plainText(c api.Cpu) string {
	b := []byte{}
	word := func(vs ...uint32) {
		for _, v := range vs {
			b = binary.BigEndian.AppendUint32(b, v)
		}
	}
	bit := map[bool]uint32{true: 1}
	word(c.PC, c.Next, bit[c.Delay])
	word(c.R[:]...)
	word(c.Hi, c.Lo, bit[c.Link])
	word(c.C.Index, c.C.EntryLo, c.C.BadVAddr, c.C.Count, c.C.EntryHi, c.C.Compare, c.C.Status, c.C.Cause, c.C.EPC)
	for _, e := range c.T {
		word(e.Hi, e.Lo)
	}
	return string(b)
}

// P13.4: each part has a number of its own, so that their order is told.
func TestTextParts(t *testing.T) {
	c := api.Cpu{PC: 0x01020304, Next: 2, Delay: true, Hi: 35, Lo: 36, Link: true}
	for n := range 31 {
		c.R[n+1] = uint32(n + 4)
	}
	c.C = api.Cp0{Index: 38, EntryLo: 39, BadVAddr: 40, Count: 41, EntryHi: 42, Compare: 43, Status: 44, Cause: 45, EPC: 46}
	for n := range c.T {
		c.T[n] = api.Entry{Hi: uint32(47 + 2*n), Lo: uint32(48 + 2*n)}
	}
	// Each number is its place in the row, but for Delay, R[0] and Link.
	want := "\x01\x02\x03\x04\x00\x00\x00\x02\x00\x00\x00\x01\x00\x00\x00\x00"
	for n := byte(4); n < 63; n++ {
		v := n
		if n == 37 {
			v = 1
		}
		want += string([]byte{0, 0, 0, v})
	}
	if s := Text(&c); s != want || len(s) != 252 || s != plainText(c) {
		t.Errorf("%d bytes, %q, wanted\n%q", len(s), s, want)
	}
	if d, e := Parse(Text(&c)); d != c || e != api.OK {
		t.Errorf("%+v, %d", d, e)
	}
}

// P13.4: a new state's bytes; and that Text changes nothing.
func TestTextReset(t *testing.T) {
	c := Reset()
	want := "\x80\x00\x02\x00\x80\x00\x02\x04" + strings.Repeat("\x00", 244)
	if s := Text(&c); s != want || c != Reset() {
		t.Errorf("%q", s)
	}
	if d, e := Parse(want); d != Reset() || e != api.OK {
		t.Errorf("%+v, %d", d, e)
	}
	if d, e := Parse(strings.Repeat("\x00", 252)); d != (api.Cpu{}) || e != api.OK {
		t.Errorf("%+v, %d", d, e)
	}
}

// P13.4: any state, there and back, also those that no steps lead to.
func TestTextAny(t *testing.T) {
	r := rand.New(rand.NewSource(134))
	for range 5000 {
		b := make([]byte, 252)
		r.Read(b)
		for _, at := range []int{8, 148} {
			copy(b[at:], []byte{0, 0, 0, byte(r.Intn(2))})
		}
		clear(b[12:16])
		c, e := Parse(string(b))
		if e != api.OK || Text(&c) != string(b) || plainText(c) != string(b) || c.R[0] != 0 {
			t.Fatalf("%q: %d, %+v", b, e, c)
		}
		d, e := Parse(Text(&c))
		if e != api.OK || d != c {
			t.Fatalf("%+v: %d, %+v", c, e, d)
		}
	}
	c := Reset()
	c.R[0] = 0x01020304
	if s := Text(&c); s[12:16] != "\x01\x02\x03\x04" {
		t.Errorf("%q", s[12:16])
	}
}

func refuse(t *testing.T, s string) {
	t.Helper()
	if c, e := Parse(s); e != api.ErrCpuForm || c != (api.Cpu{}) {
		t.Errorf("Parse(%q): %d, %+v", s, e, c)
	}
}

// P13.4: texts that are none: of each length but one, with numbers above 1 where 0 or 1 stands, with R[0] that is not 0.
func TestParseRefused(t *testing.T) {
	r := rand.New(rand.NewSource(135))
	for range 20 {
		c := anyState(r)
		s := Text(&c)
		for n := range len(s) {
			refuse(t, s[:n])
		}
		refuse(t, s[1:])
		for _, more := range []string{"\x00", "\x01", "\x00\x00\x00\x00", s} {
			refuse(t, s+more)
			refuse(t, more+s)
		}
		for _, at := range []int{8, 148} {
			for _, v := range []string{"\x00\x00\x00\x02", "\x00\x00\x00\xff", "\x00\x00\x01\x00", "\x00\x00\x01\x01", "\x01\x00\x00\x00", "\x80\x00\x00\x01", "\xff\xff\xff\xff"} {
				refuse(t, s[:at]+v+s[at+4:])
			}
			for _, v := range []string{"\x00\x00\x00\x00", "\x00\x00\x00\x01"} {
				if d, e := Parse(s[:at] + v + s[at+4:]); e != api.OK || at == 8 && d.Delay != (v[3] == 1) || at == 148 && d.Link != (v[3] == 1) {
					t.Errorf("%q: %d, %+v", v, e, d)
				}
			}
		}
		for _, v := range []string{"\x00\x00\x00\x01", "\x00\x00\x01\x00", "\x00\x01\x00\x00", "\x80\x00\x00\x00", "\xff\xff\xff\xff"} {
			refuse(t, s[:12]+v+s[16:])
		}
	}
	refuse(t, "")
	refuse(t, strings.Repeat("\xff", 252))
	refuse(t, strings.Repeat("\x00", 1<<20))
}

// P13.4: texts of any bytes: what is taken is told again, and what is not taken is not of a state.
func TestParseAny(t *testing.T) {
	r := rand.New(rand.NewSource(136))
	for range 20000 {
		c := anyState(r)
		b := []byte(Text(&c))
		b[[]int{8, 9, 10, 11, 12, 15, 148, 149, 151, r.Intn(252)}[r.Intn(10)]] = byte(r.Intn(4))
		s := string(b)
		word := func(at int) uint32 { return binary.BigEndian.Uint32(b[at:]) }
		if word(8) > 1 || word(148) > 1 || word(12) != 0 {
			refuse(t, s)
			continue
		}
		if d, e := Parse(s); e != api.OK || plainText(d) != s {
			t.Fatalf("%q: %d, %+v", s, e, d)
		}
	}
}
