package engine

import (
	"fmt"
	"math/rand"
	"slices"
	"testing"

	"zoetrope/api"
	"zoetrope/bus"
	"zoetrope/cpu"
)

// plainWord is the word of a plain instruction. It writes mostly to the low registers, so that others keep what leads somewhere.
func plainWord(r *rand.Rand) uint32 {
	most := []int{4, 8, 8, 32}[r.Intn(4)]
	s, t, d := uint32(r.Intn(32))<<21, uint32(r.Intn(most))<<16, uint32(r.Intn(most))<<11
	if r.Intn(2) == 0 {
		s = uint32(r.Intn(4)) << 21
	}
	low := uint32(r.Intn(1 << 16))
	if r.Intn(2) == 0 {
		low = []uint32{0, 1, 31, 4, 0x7fff, 0x8000, 0xffff}[r.Intn(7)]
	}
	switch n := r.Intn(21); {
	case n < 3:
		return t | d | low&31<<6 | []uint32{0, 2, 3}[n]
	case n < 14:
		return s | t | d | []uint32{4, 6, 7, 33, 35, 36, 37, 38, 39, 42, 43}[n-3]
	case n < 20:
		return uint32(n-14+9)<<26 | s | t | low
	}
	return 15<<26 | t | low
}

// In any state mostly the registers from 24 on lead to memory, and those from 28 on to devices.

// accessWord is a load or a store of memory or of a device.
func accessWord(r *rand.Rand) uint32 {
	op := []uint32{32, 33, 35, 36, 37, 40, 41, 43, 48, 56, 43, 43}[r.Intn(12)] << 26
	t := uint32(r.Intn(8)) << 16
	if r.Intn(3) == 0 {
		return 43<<26 | 28<<21 | t | 256*uint32(r.Intn(4)) + 4*uint32(r.Intn(5))
	}
	return op | uint32(24+r.Intn(4))<<21 | t | uint32(r.Intn(64)-32)*4&0xffff | uint32(r.Intn(8))/7
}

// leadWord is a branch, a jump, or what raises, goes back, or is the system's.
func leadWord(r *rand.Rand) uint32 {
	s, t, by := uint32(r.Intn(8))<<21, uint32(r.Intn(8))<<16, uint32(r.Intn(40)-20)&0xffff
	switch r.Intn(12) {
	case 0, 1, 2:
		return uint32(4+r.Intn(4))<<26 | s | t | by
	case 3:
		return 1<<26 | s | []uint32{0, 1, 16, 17}[r.Intn(4)]<<16 | by
	case 4, 5:
		return uint32(2+r.Intn(2))<<26 | uint32(r.Intn(600))
	case 6:
		return uint32(24+r.Intn(4))<<21 | 8
	case 7:
		return []uint32{12, 13, s | t | 52, s | t | 54, s | t | 32}[r.Intn(5)]
	case 8, 9:
		return 0x42000018 // eret
	case 10:
		return 16<<26 | 4<<21 | t | []uint32{0, 2, 9, 10, 11, 12, 12, 13, 14}[r.Intn(9)]<<11
	}
	return []uint32{0x42000001, 0x42000002, 0x42000008, 16<<26 | t | 12<<11, s | t | 24, 0x00000012 | uint32(r.Intn(8))<<11}[r.Intn(6)]
}

func anyWord(r *rand.Rand, plain int) uint32 {
	switch n := r.Intn(plain + 4); {
	case n == 0:
		return accessWord(r)
	case n == 1 || n == 2:
		return leadWord(r)
	case n == 3 && r.Intn(4) == 0:
		return r.Uint32()
	}
	return plainWord(r)
}

func anyAddr(r *rand.Rand) uint32 {
	switch r.Intn(12) {
	case 0:
		return r.Uint32()
	case 1:
		return []uint32{0, 1 << 31, 0x80000400, 0x800007fc, 0x80000800, 0xbffffffc, 0xfffffffc, 0x9f000000, 0x7ffffffc}[r.Intn(9)]
	case 2, 3, 4:
		return uint32(r.Intn(8))*256 + 4*uint32(r.Intn(64))
	case 5:
		return 0xa0000000 + 4*uint32(r.Intn(520))
	}
	return 0x80000000 + 4*uint32(r.Intn(520))
}

// anyState is one of any kind; most are such that blocks can be made.
func anyState(r *rand.Rand) api.Cpu {
	c := api.Cpu{PC: anyAddr(r), Delay: r.Intn(12) == 0, Hi: r.Uint32(), Lo: r.Uint32(), Link: r.Intn(2) == 0}
	if r.Intn(10) == 0 {
		c.PC += uint32(r.Intn(4))
	}
	c.Next = c.PC + 4
	if r.Intn(8) == 0 {
		c.Next = anyAddr(r)
	}
	for n := range c.R {
		c.R[n] = r.Uint32() >> r.Intn(33)
		if n >= 24 && r.Intn(20) > 0 {
			c.R[n] = 0x80000000 + 4*uint32(r.Intn(512))
		}
		if n >= 28 && r.Intn(20) > 0 {
			c.R[n] = 0xa0000000 + api.DevTimer
		}
	}
	c.C = api.Cp0{Index: uint32(r.Intn(8)), EntryHi: uint32(r.Intn(12)*256 + r.Intn(2)), EntryLo: uint32(r.Intn(10)*256 + r.Intn(8)), Count: r.Uint32(), Cause: r.Uint32(), EPC: anyAddr(r)}
	c.C.Compare = c.C.Count + uint32(r.Intn(60))
	c.C.Status = []uint32{0, 0, 0, 0, 2, 2, 3, 0x10, 0x12, 1, 0xff01, 0xff11, 0xff13, r.Uint32()}[r.Intn(14)]
	for n := range c.T {
		c.T[n] = api.Entry{Hi: uint32(r.Intn(8) * 256), Lo: uint32(r.Intn(10)*256) | []uint32{7, 6, 3, 1, 7, 7}[r.Intn(6)]}
	}
	return c
}

func anyEvents(r *rand.Rand, count int) []api.Event {
	var l []api.Event
	for range r.Intn(7) {
		l = append(l, api.Event{At: count + r.Intn(60) - 5, Kind: []int{0, 0, 0, 1, 1, 2, -1, r.Int()}[r.Intn(8)], V: r.Uint32()})
	}
	return l
}

// anyMachine has memory full of instructions, of which most are plain, and devices of which some are at work.
func anyMachine(r *rand.Rand) pair {
	room := []int{1, 2, 3, 64, 1 + r.Intn(64)}[r.Intn(5)]
	m, _ := New(4+r.Intn(6), room, allFlags()[r.Intn(8)])
	fill(r, m.Bus())
	if r.Intn(2) == 0 {
		m.Set(anyState(r))
	}
	return newPair(m, room)
}

func fill(r *rand.Rand, b *bus.Bus) {
	plain := []int{2, 10, 40}[r.Intn(3)]
	for at := range uint32(64 * b.Memory().Pages()) {
		b.Store(4*at, 4, anyWord(r, plain))
	}
	for range r.Intn(6) {
		b.Store(api.DevTimer+256*uint32(r.Intn(4))+4*uint32(r.Intn(3)), 4, uint32(r.Intn(20)))
	}
}

// P17.1 to P17.5: any machines side by side, any calls on them, each held against its model, blocks and all.
func TestAnyCalls(t *testing.T) {
	made, done, count := 0, 0, 0
	for seed := range int64(400) {
		r := rand.New(rand.NewSource(17000 + seed))
		l := []pair{anyMachine(r), anyMachine(r)}
		for range 60 {
			n := r.Intn(len(l))
			l[n] = anyCall(t, r, l, n)
			for k, p := range l {
				p.o.hold(t, fmt.Sprint("seed ", seed, ", machine ", k), p.m)
			}
		}
		for _, p := range l {
			made, done, count = made+p.m.Made(), done+p.m.Done(), count+p.m.Count()
		}
	}
	if made < 10000 || done < 100000 || count-done < 50000 {
		t.Errorf("made %d, done %d of %d", made, done, count)
	}
}

// anyCall does anything to the machine n; what it is then.
func anyCall(t *testing.T, r *rand.Rand, l []pair, n int) pair {
	t.Helper()
	p := l[n]
	switch r.Intn(24) {
	case 0:
		p.m.Flush()
		p.o.row = nil
	case 1, 2:
		p.set(anyState(r))
	case 3, 4, 5:
		at, size, v := anyAddr(r)%0x900, []int{1, 2, 4, 4}[r.Intn(4)], anyWord(r, 5)
		if r.Intn(3) == 0 {
			at, size, v = api.DevTimer+256*uint32(r.Intn(4))+4*uint32(r.Intn(4)), 4, uint32(r.Intn(12))
		}
		if e, want := p.m.Bus().Store(at, size, v), p.o.b.Store(at, size, v); e != want {
			t.Fatal(e, want)
		}
	case 6:
		k := pair{p.m.Clone(), p.o.clone()}
		if r.Intn(2) == 0 {
			return k
		}
		k.run(t, r.Intn(80), nil)
	case 7:
		anyLoad(t, r, p, l[r.Intn(len(l))])
	default:
		events := anyEvents(r, p.m.Count())
		was := slices.Clone(events)
		p.run(t, []int{0, 1, 2, 15, 16, 17, r.Intn(50), r.Intn(300), -r.Intn(9)}[r.Intn(9)], events)
		if !slices.Equal(events, was) {
			t.Fatal("other events")
		}
	}
	return p
}

// anyLoad loads what one machine tells into another one; it is refused, if their memories differ.
func anyLoad(t *testing.T, r *rand.Rand, p, from pair) {
	t.Helper()
	rest, pages := from.m.Rest(), pagesOf(from.m)
	if r.Intn(3) == 0 {
		rest = with(rest, r.Intn(len(rest)-1), string([]byte{byte(r.Intn(4)), byte(r.Intn(256))}))
	}
	e := p.m.Load(rest, pages)
	if e != api.OK {
		p.o.hold(t, "refused", p.m)
		return
	}
	if len(pages) != p.m.Bus().Memory().Pages() || p.m.Rest() != rest {
		t.Fatal("loaded what may not be")
	}
	c, err := cpu.Parse(rest[cpuAt:devicesAt])
	if err != api.OK || p.o.b.Set(rest[devicesAt:]) != api.OK {
		t.Fatal(err)
	}
	p.o.c, p.o.count = c, p.m.Count()
	for n, s := range pages {
		p.o.b.Memory().Put(n, s)
	}
}

// P17.2: any states, in runs at once: what two machines with other room and passes make, one of them in single steps and with Flush, is the same.
func TestAnySame(t *testing.T) {
	for seed := range int64(150) {
		r := rand.New(rand.NewSource(17500 + seed))
		p := anyMachine(r)
		k, _ := New(p.m.Bus().Memory().Pages(), 1+r.Intn(64), allFlags()[r.Intn(8)])
		if e := k.Load(p.m.Rest(), pagesOf(p.m)); e != api.OK {
			t.Fatal(e)
		}
		events := anyEvents(r, 0)
		for left := 500; left > 0; {
			n := min(left, 1+r.Intn(60))
			run(t, p.m, n, events...)
			left -= n
			for range n {
				run(t, k, 1, events...)
				if r.Intn(10) == 0 {
					k.Flush()
				}
			}
			if k.Rest() != p.m.Rest() || k.Bus().Memory().Image() != p.m.Bus().Memory().Image() || k.Done() != p.m.Done() {
				t.Fatalf("seed %d: %+v, wanted\n%+v", seed, k.Cpu(), p.m.Cpu())
			}
		}
	}
}

// R1, P17.4: any bytes: what is loaded is told again, what is refused changes nothing; steps go on.
func TestAnyBytes(t *testing.T) {
	r := rand.New(rand.NewSource(17900))
	loaded := 0
	m := busy(t)
	rest := m.Rest()
	for range 20000 {
		b := []byte(rest)
		for range 1 + r.Intn(3) {
			b[r.Intn(len(b))] = byte(r.Intn(256) >> r.Intn(8))
		}
		if r.Intn(4) == 0 {
			b[r.Intn(8)] = byte(r.Intn(3))
		}
		if r.Intn(20) == 0 {
			b = b[:r.Intn(len(b))]
		}
		before, pages := wholeOf(m), pagesOf(m)
		if r.Intn(20) == 0 {
			pages = pages[:r.Intn(9)]
		}
		if e := m.Load(string(b), pages); e == api.OK {
			loaded++
			if m.Rest() != string(b) || m.Count() < 0 || m.Count() > 1<<40 {
				t.Fatalf("%q", b)
			}
			m.Run(20, anyEvents(r, m.Count()))
		} else if e != api.ErrEngineForm || wholeOf(m) != before {
			t.Fatalf("%d of %q", e, b)
		}
	}
	if loaded < 5000 || loaded > 18000 {
		t.Error(loaded)
	}
	for _, s := range []string{"", "\x00", "zoetrope", string(make([]byte, 100000))} {
		if e := m.Load(s, pagesOf(m)); e != api.ErrEngineForm {
			t.Errorf("%.9q: %d", s, e)
		}
	}
}
