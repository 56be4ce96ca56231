package cpu

import (
	"math/rand"
	"testing"

	"zoetrope/api"
	"zoetrope/bus"
)

// anyWord is of any length.
func anyWord(r *rand.Rand) uint32 { return r.Uint32() >> r.Intn(33) }

// anyAddr is an address of any kind: of memory by each way, of devices, at the edges, or any.
func anyAddr(r *rand.Rand) uint32 {
	edges := []uint32{0, 1<<31 - 1, 1<<31 - 4, 1 << 31, 0x9fffffff, 0xa0000000, 0xbfffffff, 0xbffffffc, 0xc0000000, top, top - 3, 0x80000800, 0x80000180}
	switch r.Intn(10) {
	case 0:
		return edges[r.Intn(len(edges))]
	case 1:
		return r.Uint32()
	case 2:
		return 0x9f000000 + 256*uint32(r.Intn(4)) + uint32(r.Intn(20))
	case 3:
		return 0xbf000000 + 256*uint32(r.Intn(4)) + 4*uint32(r.Intn(5))
	case 4, 5, 6:
		return 0x80000000 + 4*uint32(r.Intn(513))
	case 7:
		return 0xa0000000 + uint32(r.Intn(2100))
	}
	return uint32(r.Intn(12))*256 + 4*uint32(r.Intn(64)) + uint32(r.Intn(8))/7
}

func anyNumber(r *rand.Rand) uint32 {
	edges := []uint32{0, 1, 2, 31, 32, 33, most - 1, most, least, least + 1, top - 1, top, 0x7fff, 0x8000, 0xffff8000, 3 << 30}
	switch r.Intn(4) {
	case 0:
		return edges[r.Intn(len(edges))]
	case 1:
		return anyWord(r)
	}
	return anyAddr(r)
}

func anyEntry(r *rand.Rand) api.Entry {
	e := api.Entry{Hi: uint32(r.Intn(12))*256 + uint32(r.Intn(3)), Lo: uint32(r.Intn(10))*256 + uint32(r.Intn(8))}
	switch r.Intn(12) {
	case 0:
		e.Hi = anyAddr(r)
	case 1:
		e.Lo = r.Uint32()
	case 2:
		e.Lo = 0x1f000000 + 256*uint32(r.Intn(4)) + uint32(r.Intn(8))
	}
	if r.Intn(2) == 0 {
		e.Lo |= 6
	}
	return e
}

// anyState is one of any kind, also of those that no steps lead to.
func anyState(r *rand.Rand) api.Cpu {
	c := api.Cpu{PC: anyAddr(r), Delay: r.Intn(4) == 0, Hi: anyNumber(r), Lo: anyNumber(r), Link: r.Intn(2) == 0}
	if r.Intn(4) > 0 {
		c.PC = c.PC / 4 * 4
	}
	c.Next = c.PC + 4
	if r.Intn(4) == 0 {
		c.Next = anyAddr(r)
	}
	for n := range 31 {
		c.R[n+1] = anyNumber(r)
	}
	c.C = api.Cp0{Index: uint32(r.Intn(8)), EntryLo: anyEntry(r).Lo, BadVAddr: anyWord(r), Count: anyWord(r), EntryHi: anyEntry(r).Hi, Compare: anyWord(r), Cause: r.Uint32(), EPC: anyAddr(r)}
	c.C.Status = []uint32{0, 1, 2, 0x10, 0x11, 0xff01, 0xff11, 0xff13, r.Uint32() & 0xff13, r.Uint32()}[r.Intn(10)]
	if r.Intn(3) == 0 {
		c.C.Compare = c.C.Count + uint32(r.Intn(4))
	}
	if r.Intn(6) == 0 {
		c.C.Index = r.Uint32()
	}
	for n := range c.T {
		c.T[n] = anyEntry(r)
	}
	return c
}

// anyInstruction is a word of an instruction with any fields, more often with numbers that lead somewhere, or now and then any word.
func anyInstruction(r *rand.Rand) uint32 {
	if r.Intn(40) == 0 {
		return r.Uint32()
	}
	k := kinds[r.Intn(len(kinds))]
	w := r.Uint32()
	switch {
	case k.form == "J":
		w = uint32(r.Intn(520))
	case r.Intn(3) > 0 && (k.form == "BZ" || k.form == "B2" || k.form == "M"):
		w = w&0xffff0000 | uint32(r.Intn(64)-32)&0xffff
	case k.form == "M":
		w &^= 0x8003
	case k.form == "C0" && r.Intn(3) > 0:
		w = w&^0xf800 | []uint32{0, 2, 8, 9, 10, 11, 12, 13, 14}[r.Intn(9)]<<11
	case k.form == "CL" && r.Intn(10) > 0:
		w = w&^0x1f0000 | w>>11&31<<16
	}
	return w&^k.mask | k.bits
}

// anyBus is one whose memory is full of instructions, with devices of any state.
func anyBus(r *rand.Rand, pages int) *bus.Bus {
	b, _ := bus.New(pages)
	for at := uint32(0); at < uint32(256*pages); at += 4 {
		b.Store(at, 4, anyInstruction(r))
	}
	for range r.Intn(12) {
		v := uint32(r.Intn(8))
		if r.Intn(4) == 0 {
			v = anyNumber(r)
		}
		b.Store(api.DevTimer+256*uint32(r.Intn(4))+4*uint32(r.Intn(4)), 4, v)
	}
	for range r.Intn(4) {
		b.Feed(api.Event{Kind: r.Intn(2), V: r.Uint32()})
	}
	b.Memory().Clean()
	return b
}

// P13.2, P13.3, P13.5: one step from any state on, of any instruction, held against the model; all kinds of instructions and exceptions come.
func TestAnyStep(t *testing.T) {
	r := rand.New(rand.NewSource(137))
	b := anyBus(r, 8)
	codes, done := map[uint32]int{}, map[string]int{}
	for n := range 200000 {
		if n%1000 == 0 {
			b = anyBus(r, 4+r.Intn(6))
		}
		c := anyState(r)
		at, code, _ := Where(&c, c.PC, false)
		w := anyInstruction(r)
		if code < 0 && b.Memory().Store(at, 4, w) == api.OK {
			k, _ := kindOf(w)
			done[k.name]++
		}
		p := newPair(c, b)
		p.step(t)
		if p.c.R[0] != 0 {
			t.Fatal("register 0 is another one")
		}
		if n%20 == 0 {
			p.hold(t)
		}
		codes[p.c.C.Cause>>2&31]++
	}
	for _, k := range kinds {
		if done[k.name] < 200 {
			t.Errorf("%s came %d times", k.name, done[k.name])
		}
	}
	for _, code := range []uint32{0, 1, 2, 3, 4, 5, 6, 7, 8, 9, 10, 12, 13} {
		if codes[code] < 100 {
			t.Errorf("code %d came %d times", code, codes[code])
		}
	}
}

// P13.5: any program from any state on, with events between: many steps, in which it writes over itself, held against the model.
func TestAnyRun(t *testing.T) {
	for seed := range int64(150) {
		r := rand.New(rand.NewSource(13800 + seed))
		p := newPair(anyState(r), anyBus(r, 4+r.Intn(61)))
		for n := range 600 {
			if r.Intn(40) == 0 {
				e := api.Event{Kind: r.Intn(2), V: r.Uint32()}
				p.b.Feed(e)
				p.m.b.Feed(e)
			}
			if r.Intn(60) == 0 {
				*p.c = anyState(r)
				p.m.c = *p.c
			}
			p.step(t)
			if p.c.R[0] != 0 {
				t.Fatal("register 0 is another one")
			}
			if n%30 == 0 {
				p.hold(t)
			}
		}
		p.hold(t)
	}
}

// P13.5: memory of any words at all, which are mostly no instructions.
func TestAnyWords(t *testing.T) {
	r := rand.New(rand.NewSource(139))
	for range 60 {
		b, _ := bus.New(4)
		for at := uint32(0); at < 1024; at += 4 {
			b.Store(at, 4, anyWord(r))
		}
		p := newPair(anyState(r), b)
		for range 200 {
			p.step(t)
		}
		p.hold(t)
	}
}

// P13.4, P13.5: one state with one bus's state has one next one: copies, and those made anew of texts, go on alike.
func TestOneNext(t *testing.T) {
	for seed := range int64(60) {
		r := rand.New(rand.NewSource(14000 + seed))
		c, b := anyState(r), anyBus(r, 6)
		other, e := Parse(Text(&c))
		if e != api.OK {
			t.Fatal(e)
		}
		anew, _ := bus.New(6)
		for n := range 6 {
			s, _ := b.Memory().Page(n)
			anew.Memory().Put(n, s)
		}
		anew.Memory().Clean()
		if e := anew.Set(b.Devices()); e != api.OK {
			t.Fatal(e)
		}
		copied, clone := c, b.Clone()
		for range 300 {
			Step(&c, b)
			Step(&other, anew)
			Step(&copied, clone)
			if c != other || c != copied || Text(&c) != Text(&other) {
				t.Fatalf("%+v and\n%+v and\n%+v", c, other, copied)
			}
		}
		sameBus(t, anew, b)
		sameBus(t, clone, b)
	}
}

// P13.5: a program that writes over the instruction that comes next, and over the one that it is itself.
func TestWritesOverItself(t *testing.T) {
	b := laid(t, 0x200, "sw $5,4($8)\nsyscall\nsw $6,8($8)\nbeq $0,$0,-2\naddiu $3,$3,1")
	c := Reset()
	c.R[5], c.R[6], c.R[8] = 0x24210001, 0x24420001, 0x80000200 // addiu $1,$1,1; addiu $2,$2,1
	for range 6 {
		Step(&c, b)
	}
	if c.R[1] != 1 || c.R[2] != 1 || c.R[3] != 1 || c.PC != 0x8000020c || c.C.Status != 0 {
		t.Errorf("%+v", c)
	}
}

// P13.5: the machine's own handlers may be missing, and their place, too: steps go on all the same.
func TestNothingThere(t *testing.T) {
	b, _ := bus.New(4)
	for at := uint32(0); at < 1024; at += 4 {
		b.Store(at, 4, top)
	}
	c := Reset()
	for n := range 1000 {
		Step(&c, b)
		if c.PC != otherAt || c.C.EPC != 0x80000200 || c.C.Count != uint32(n+1) || c.C.Cause != 10<<2 {
			t.Fatalf("step %d: %+v", n, c)
		}
	}
}
