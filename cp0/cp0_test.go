package cp0

import (
	"math"
	"math/rand"
	"testing"

	"zoetrope/api"
)

// The model tells the chapter's words bit by bit: a word is gone over by dividing, no mask is shared with the package.

func bit(w uint32, n int) bool { return w>>n%2 == 1 }

func setBit(w uint32, n int, on bool) uint32 {
	if bit(w, n) == on {
		return w
	}
	if on {
		return w + 1<<n
	}
	return w - 1<<n
}

// field is where the model keeps a register; nil: there is none of that number.
func field(c *api.Cp0, reg int) *uint32 {
	return map[int]*uint32{
		api.RegIndex: &c.Index, api.RegEntryLo: &c.EntryLo, api.RegBadVAddr: &c.BadVAddr, api.RegCount: &c.Count,
		api.RegEntryHi: &c.EntryHi, api.RegCompare: &c.Compare, api.RegStatus: &c.Status, api.RegCause: &c.Cause,
		api.RegEPC: &c.EPC,
	}[reg]
}

func changes(reg, n int) bool {
	switch reg {
	case 0:
		return n <= 2
	case 2:
		return n <= 2 || n >= 8
	case 9, 10, 11, 14:
		return true
	case 12:
		return n == 0 || n == 1 || n == 4 || n >= 8 && n <= 15
	case 13:
		return n == 8 || n == 9
	}
	return false
}

func written(c api.Cp0, reg int, v uint32) api.Cp0 {
	f := field(&c, reg)
	if f == nil {
		return c
	}
	for n := range 32 {
		if changes(reg, n) {
			*f = setBit(*f, n, bit(v, n))
		}
	}
	if reg == 11 {
		c.Cause = setBit(c.Cause, 15, false)
	}
	return c
}

func modelRaise(c api.Cp0, code int, refill bool, pc uint32, delay bool) (api.Cp0, uint32) {
	to := uint32(0x80000180)
	if !bit(c.Status, 1) {
		c.EPC = pc
		if delay {
			c.EPC = uint32((uint64(pc) + 1<<32 - 4) % (1 << 32))
		}
		c.Cause = setBit(c.Cause, 31, delay)
		if refill {
			to = 0x80000000
		}
	}
	c.Status = setBit(c.Status, 1, true)
	left := (code%32 + 32) % 32
	for n := 2; n <= 6; n++ {
		c.Cause = setBit(c.Cause, n, left%2 == 1)
		left /= 2
	}
	return c, to
}

func modelBad(c api.Cp0, addr uint32, page bool) api.Cp0 {
	c.BadVAddr = addr
	if page {
		c.EntryHi = addr/256*256 + c.EntryHi%256
	}
	return c
}

func modelTick(c api.Cp0, lines uint32) api.Cp0 {
	c.Count = uint32((uint64(c.Count) + 1) % (1 << 32))
	if c.Count == c.Compare {
		c.Cause = setBit(c.Cause, 15, true)
	}
	for n := range 5 {
		c.Cause = setBit(c.Cause, 10+n, bit(lines, n))
	}
	return c
}

func modelPending(c api.Cp0) bool {
	common := false
	for n := 8; n <= 15; n++ {
		common = common || bit(c.Status, n) && bit(c.Cause, n)
	}
	return bit(c.Status, 0) && !bit(c.Status, 1) && common
}

func modelUser(c api.Cp0) bool { return bit(c.Status, 4) && !bit(c.Status, 1) }

func theRegs() []int { return []int{0, 2, 8, 9, 10, 11, 12, 13, 14} }

func noRegs() []int {
	return []int{-1, 1, 3, 4, 5, 6, 7, 15, 16, 31, 32, 64, -2, -8, -12, 128, 256, 256 + 12, 1<<16 + 12, math.MaxInt, math.MinInt,
		math.MaxInt - 1, math.MinInt + 12, math.MaxInt32, math.MinInt32, 1 << 32, 1<<32 + 2, 1<<32 + 12, -1<<32 + 14, 1<<62 + 9}
}

func theCodes() []int {
	codes := []int{32, 33, 40, 63, 64, 255, 256, -1, -2, -8, -31, -32, -33, -64, math.MaxInt, math.MinInt, math.MaxInt - 1, math.MinInt + 1,
		math.MaxInt32, math.MinInt32, 1 << 32, 1<<32 + 5, -1<<32 + 8, 1 << 62, 1<<30 + 10}
	for code := range 32 {
		codes = append(codes, code)
	}
	return codes
}

func edgeWords() []uint32 {
	ws := []uint32{0, 3, 4, 5, 7, 8, 0xff, 0x107, 0x104, 0xff13, 0xffff, 0x55555555, 0xaaaaaaaa, 1<<31 - 1, 1<<32 - 1, 1<<32 - 2, 1<<32 - 4, 1<<32 - 256}
	for n := range 32 {
		ws = append(ws, 1<<n)
	}
	return ws
}

func all(v uint32) api.Cp0 {
	return api.Cp0{Index: v, EntryLo: v, BadVAddr: v, Count: v, EntryHi: v, Compare: v, Status: v, Cause: v, EPC: v}
}

// someRegisters are registers of noughts, of ones, of which each tells itself apart, and of bits that no Write could have set.
func someRegisters() []api.Cp0 {
	return []api.Cp0{{}, all(1<<32 - 1), all(0x5a5a5a5a), all(0xa5a5a5a5),
		{Index: 1, EntryLo: 2, BadVAddr: 3, Count: 4, EntryHi: 5, Compare: 6, Status: 7, Cause: 8, EPC: 9},
		{Index: ^uint32(7), EntryLo: 0xf8, BadVAddr: 0x1234, Status: ^uint32(0xff13), Cause: ^uint32(0x300)},
		{Status: 0xff11, Cause: 0x8000ff7c}, {Status: 0xff13, Cause: 0xff00, EPC: 0x400}}
}

// holdAsked holds what is asked of registers against the model.
func holdAsked(t *testing.T, c api.Cp0) {
	t.Helper()
	for reg := -2; reg < 20; reg++ {
		want := uint32(0)
		if f := field(&c, reg); f != nil {
			want = *f
		}
		if v := Read(c, reg); v != want {
			t.Fatalf("Read(%+v, %d): %#x, wanted %#x", c, reg, v, want)
		}
	}
	if p, u := Pending(c), User(c); p != modelPending(c) || u != modelUser(c) {
		t.Fatalf("%+v: pending %v, user %v", c, p, u)
	}
}

func holdWrite(t *testing.T, c api.Cp0, reg int, v uint32) api.Cp0 {
	t.Helper()
	d := Write(c, reg, v)
	if want := written(c, reg, v); d != want {
		t.Fatalf("Write(%+v, %d, %#x): %+v, wanted %+v", c, reg, v, d, want)
	}
	return d
}

func holdRaise(t *testing.T, c api.Cp0, code int, refill bool, pc uint32, delay bool) api.Cp0 {
	t.Helper()
	d, to := Raise(c, code, refill, pc, delay)
	want, wantTo := modelRaise(c, code, refill, pc, delay)
	if d != want || to != wantTo {
		t.Fatalf("Raise(%+v, %d, %v, %#x, %v): %+v, %#x; wanted %+v, %#x", c, code, refill, pc, delay, d, to, want, wantTo)
	}
	return d
}

func holdReturn(t *testing.T, c api.Cp0) api.Cp0 {
	t.Helper()
	d, at := Return(c)
	want := c
	want.Status = setBit(c.Status, 1, false)
	if d != want || at != c.EPC {
		t.Fatalf("Return(%+v): %+v, %#x; wanted %+v, %#x", c, d, at, want, c.EPC)
	}
	return d
}

func holdBad(t *testing.T, c api.Cp0, addr uint32, page bool) api.Cp0 {
	t.Helper()
	d := Bad(c, addr, page)
	if want := modelBad(c, addr, page); d != want {
		t.Fatalf("Bad(%+v, %#x, %v): %+v, wanted %+v", c, addr, page, d, want)
	}
	return d
}

func holdTick(t *testing.T, c api.Cp0, lines uint32) api.Cp0 {
	t.Helper()
	d := Tick(c, lines)
	if want := modelTick(c, lines); d != want {
		t.Fatalf("Tick(%+v, %#x): %+v, wanted %+v", c, lines, d, want)
	}
	return d
}

// The numbers of the registers are those of package api, which the chapter's table names.
func TestNumbers(t *testing.T) {
	names := map[int]int{index: api.RegIndex, entryLo: api.RegEntryLo, badVAddr: api.RegBadVAddr, count: api.RegCount, entryHi: api.RegEntryHi,
		compare: api.RegCompare, status: api.RegStatus, cause: api.RegCause, epc: api.RegEPC}
	if len(names) != 9 {
		t.Fatal(names)
	}
	for own, given := range names {
		if own != given {
			t.Errorf("%d stands for %d", own, given)
		}
	}
}

// P8.1: each register is read by its number; what is of no register is 0.
func TestRead(t *testing.T) {
	c := api.Cp0{Index: 100, EntryLo: 102, BadVAddr: 108, Count: 109, EntryHi: 110, Compare: 111, Status: 112, Cause: 113, EPC: 114}
	for _, reg := range theRegs() {
		if v := Read(c, reg); v != uint32(100+reg) {
			t.Errorf("%d: %d", reg, v)
		}
	}
	for _, c := range someRegisters() {
		holdAsked(t, c)
		for _, reg := range noRegs() {
			if v := Read(c, reg); v != 0 {
				t.Errorf("%d: %#x", reg, v)
			}
		}
	}
}

// P8.1: Write changes the bits of the chapter's table, and no others, in that register alone.
func TestWriteBits(t *testing.T) {
	want := map[int]uint32{0: 7, 2: 0xffffff07, 8: 0, 9: 1<<32 - 1, 10: 1<<32 - 1, 11: 1<<32 - 1, 12: 0xff13, 13: 0x300, 14: 1<<32 - 1}
	for _, reg := range theRegs() {
		if v := Read(Write(api.Cp0{}, reg, 1<<32-1), reg); v != want[reg] {
			t.Errorf("ones to %d: %#x, wanted %#x", reg, v, want[reg])
		}
		if v := Read(Write(all(1<<32-1), reg, 0), reg); v != ^want[reg] {
			t.Errorf("noughts to %d: %#x, wanted %#x", reg, v, ^want[reg])
		}
		for n := range 32 {
			if v := Read(Write(api.Cp0{}, reg, 1<<n), reg); (v == 1<<n) != changes(reg, n) {
				t.Errorf("bit %d to %d: %#x", n, reg, v)
			}
			if v := Read(Write(all(1<<32-1), reg, ^uint32(1<<n)), reg); (v != 1<<32-1) != changes(reg, n) {
				t.Errorf("all but bit %d to %d: %#x", n, reg, v)
			}
		}
	}
	for _, c := range someRegisters() {
		for _, v := range edgeWords() {
			for _, reg := range theRegs() {
				holdWrite(t, c, reg, v)
			}
		}
	}
}

// P8.1: a write to no register changes nothing.
func TestWriteNone(t *testing.T) {
	for _, c := range someRegisters() {
		for _, reg := range noRegs() {
			for _, v := range edgeWords() {
				if d := Write(c, reg, v); d != c {
					t.Fatalf("Write(%+v, %d, %#x): %+v", c, reg, v, d)
				}
			}
		}
	}
}

// P8.1: Compare's write takes Cause's bit 15 away, whatever is written; no other register's does.
func TestWriteCompare(t *testing.T) {
	c := api.Cp0{Cause: 1<<32 - 1, Compare: 5}
	for _, v := range edgeWords() {
		if d := Write(c, api.RegCompare, v); d != (api.Cp0{Cause: 0xffff7fff, Compare: v}) {
			t.Errorf("%#x: %+v", v, d)
		}
	}
	if d := Write(api.Cp0{Cause: 1 << 15, Compare: 5}, api.RegCompare, 5); d != (api.Cp0{Compare: 5}) {
		t.Errorf("the same once more: %+v", d)
	}
	for _, reg := range theRegs() {
		if d := Write(c, reg, 0); reg != api.RegCompare && !bit(d.Cause, 15) {
			t.Errorf("%d: %+v", reg, d)
		}
	}
}

// P8.2: EXL 0 and 1, refill or not, delay or not, all codes and places together.
func TestRaise(t *testing.T) {
	pcs := []uint32{0, 1, 3, 4, 7, 8, 0x104, 1 << 31, 1<<31 + 3, 1<<32 - 4, 1<<32 - 1}
	for _, c := range someRegisters() {
		for _, exl := range []bool{false, true} {
			c.Status = setBit(c.Status, 1, exl)
			for i := range 4 {
				for _, pc := range pcs {
					for _, code := range theCodes() {
						holdRaise(t, c, code, i%2 == 1, pc, i/2 == 1)
					}
				}
			}
		}
	}
}

// P8.2: the numbers themselves, as the chapter tells them.
func TestRaiseTold(t *testing.T) {
	bd := uint32(1 << 31)
	for i, x := range []struct {
		c      api.Cp0
		code   int
		refill bool
		pc     uint32
		delay  bool
		want   api.Cp0
		to     uint32
	}{
		{api.Cp0{}, api.ExcSys, false, 0x104, true, api.Cp0{EPC: 0x100, Cause: 0x80000020, Status: 2}, 0x80000180},
		{api.Cp0{}, api.ExcTLBL, true, 0x104, false, api.Cp0{EPC: 0x104, Cause: 8, Status: 2}, 0x80000000},
		{api.Cp0{Cause: bd | 0x7c}, 0, false, 0, false, api.Cp0{Status: 2}, 0x80000180},
		{api.Cp0{}, 31, true, 0, true, api.Cp0{EPC: 1<<32 - 4, Cause: bd | 0x7c, Status: 2}, 0x80000000},
		{api.Cp0{}, 32, false, 3, true, api.Cp0{EPC: 1<<32 - 1, Cause: bd, Status: 2}, 0x80000180},
		{api.Cp0{}, -1, false, 4, true, api.Cp0{Cause: bd | 0x7c, Status: 2}, 0x80000180},
		{api.Cp0{}, -31, false, 4, false, api.Cp0{EPC: 4, Cause: 4, Status: 2}, 0x80000180},
		{api.Cp0{}, math.MaxInt, false, 4, false, api.Cp0{EPC: 4, Cause: 0x7c, Status: 2}, 0x80000180},
		{api.Cp0{Cause: 0x7c}, math.MinInt, false, 4, false, api.Cp0{EPC: 4, Status: 2}, 0x80000180},
		{api.Cp0{Status: 2, EPC: 9}, 9, true, 0x104, true, api.Cp0{EPC: 9, Cause: 9 << 2, Status: 2}, 0x80000180},
		{api.Cp0{Status: 2, EPC: 9, Cause: bd}, 9, false, 0x104, false, api.Cp0{EPC: 9, Cause: bd | 9<<2, Status: 2}, 0x80000180},
	} {
		if d, to := Raise(x.c, x.code, x.refill, x.pc, x.delay); d != x.want || to != x.to {
			t.Errorf("%d: %+v, %#x; wanted %+v, %#x", i, d, to, x.want, x.to)
		}
	}
}

// P8.2: Return takes EXL away, with EXL 0 too, and tells EPC.
func TestReturn(t *testing.T) {
	for _, c := range someRegisters() {
		for _, w := range edgeWords() {
			c.Status, c.EPC = w, ^w
			holdReturn(t, c)
			c.Status |= 2
			holdReturn(t, holdReturn(t, c))
		}
	}
	if d, at := Return(api.Cp0{Status: 0xff13, EPC: 0x500, Cause: 1 << 31}); at != 0x500 || d != (api.Cp0{Status: 0xff11, EPC: 0x500, Cause: 1 << 31}) {
		t.Errorf("%+v, %#x", d, at)
	}
}

// P8.3: the address is kept; its page alone goes into EntryHi, if asked for; the space stays.
func TestBad(t *testing.T) {
	for _, c := range someRegisters() {
		for _, addr := range edgeWords() {
			for _, hi := range []uint32{c.EntryHi, 0, 0xff, 0x100, 0xaabbccdd, 1<<32 - 1} {
				c.EntryHi = hi
				holdBad(t, c, addr, false)
				holdBad(t, c, addr, true)
			}
		}
	}
	c := api.Cp0{EntryHi: 0xaabbccdd, BadVAddr: 7}
	if d := Bad(c, 0x11223344, true); d != (api.Cp0{EntryHi: 0x112233dd, BadVAddr: 0x11223344}) {
		t.Errorf("with page: %+v", d)
	}
	if d := Bad(c, 0x11223344, false); d != (api.Cp0{EntryHi: 0xaabbccdd, BadVAddr: 0x11223344}) {
		t.Errorf("without: %+v", d)
	}
}

// P8.4: Count goes on by one and round; where it is Compare then, bit 15 is set, and stays elsewhere.
func TestTickCount(t *testing.T) {
	for _, x := range []struct{ count, compare, cause, wantCount, wantCause uint32 }{
		{0, 0, 0, 1, 0},
		{4, 5, 0, 5, 1 << 15},
		{5, 5, 0, 6, 0},
		{6, 5, 0, 7, 0},
		{3, 5, 0, 4, 0},
		{3, 5, 1 << 15, 4, 1 << 15},
		{4, 5, 1 << 15, 5, 1 << 15},
		{5, 5, 1 << 15, 6, 1 << 15},
		{1<<32 - 1, 0, 0, 0, 1 << 15},
		{1<<32 - 1, 1<<32 - 1, 0, 0, 0},
		{1<<32 - 1, 1, 0, 0, 0},
		{1<<32 - 2, 1<<32 - 1, 0, 1<<32 - 1, 1 << 15},
		{1<<31 - 1, 1 << 31, 0x800003ff, 1 << 31, 0x800083ff},
	} {
		c := api.Cp0{Count: x.count, Compare: x.compare, Cause: x.cause}
		want := api.Cp0{Count: x.wantCount, Compare: x.compare, Cause: x.wantCause}
		if d := holdTick(t, c, 0); d != want {
			t.Errorf("%+v: %+v, wanted %+v", c, d, want)
		}
	}
}

// P8.4: the lines are taken as they are, each bit alone; a line that is gone is none in Cause; bits above 4 are of no line.
func TestTickLines(t *testing.T) {
	for n := range 32 {
		want := uint32(0)
		if n < 5 {
			want = 1 << (10 + n)
		}
		if d := Tick(api.Cp0{}, 1<<n); d.Cause != want {
			t.Errorf("line %d: %#x", n, d.Cause)
		}
		if d := Tick(api.Cp0{Cause: 1<<32 - 1}, 1<<n); d.Cause != 0xffff83ff|want {
			t.Errorf("line %d alone: %#x", n, d.Cause)
		}
	}
	if d := Tick(api.Cp0{Cause: 1<<32 - 1}, 0); d.Cause != 0xffff83ff {
		t.Errorf("no line: %#x", d.Cause)
	}
	for _, c := range someRegisters() {
		for _, lines := range edgeWords() {
			holdTick(t, c, lines)
		}
	}
}

// P8.4: an interrupt is taken if none of four things is missing.
func TestPending(t *testing.T) {
	for n := range 32 {
		for m := range 32 {
			want := n == m && n >= 8 && n <= 15
			c := api.Cp0{Status: 1<<n | 1, Cause: 1 << m}
			if n == 1 {
				want = false
			}
			if Pending(c) != want {
				t.Errorf("mask %d, pending %d: %v", n, m, !want)
			}
			if c.Status = 1<<n&^1 | 2; Pending(c) {
				t.Errorf("mask %d, pending %d, IE 0, EXL 1", n, m)
			}
			if c.Status = 1<<n | 3; Pending(c) {
				t.Errorf("mask %d, pending %d, EXL 1", n, m)
			}
			if c.Status = 1 << n; Pending(c) {
				t.Errorf("mask %d, pending %d, IE 0", n, m)
			}
		}
	}
	for status, want := range map[uint32]bool{0xff01: true, 0xff00: false, 0xff03: false, 0x01: false, 0xff02: false, 0xff11: true, 1<<32 - 3: true, 1<<32 - 1: false} {
		if c := (api.Cp0{Status: status, Cause: 0xff00}); Pending(c) != want {
			t.Errorf("%#x: %v", status, !want)
		}
		if c := (api.Cp0{Status: status, Cause: 0xffff00ff}); Pending(c) {
			t.Errorf("%#x: nothing is pending", status)
		}
	}
}

// P8.4: a user's program runs with UM 1 and EXL 0.
func TestUser(t *testing.T) {
	for status, want := range map[uint32]bool{0: false, 16: true, 18: false, 2: false, 17: true, 0xff11: true, 0xff13: false, 1<<32 - 3: true, 1<<32 - 1: false, 1<<32 - 17: false, 8: false, 32: false} {
		if User(api.Cp0{Status: status, Cause: 1<<32 - 1}) != want {
			t.Errorf("%#x: %v", status, !want)
		}
	}
}

// P8.5: what is written is read, in the bits that may be changed; all others stay, of the other registers too.
func TestWrittenIsRead(t *testing.T) {
	r := rand.New(rand.NewSource(85))
	for range 4000 {
		c := anyRegisters(r)
		reg, v := theRegs()[r.Intn(9)], r.Uint32()
		d := Write(c, reg, v)
		for n := range 32 {
			want := bit(Read(c, reg), n)
			if changes(reg, n) {
				want = bit(v, n)
			}
			if bit(Read(d, reg), n) != want {
				t.Fatalf("Write(%+v, %d, %#x): %+v", c, reg, v, d)
			}
		}
		for _, other := range theRegs() {
			was := Read(c, other)
			if reg == 11 && other == 13 {
				was = setBit(was, 15, false)
			}
			if other != reg && Read(d, other) != was {
				t.Fatalf("Write(%+v, %d, %#x): %+v", c, reg, v, d)
			}
		}
		if Write(d, reg, v) != d {
			t.Fatalf("%+v: a second write of %#x to %d changes it", d, v, reg)
		}
	}
}

// P8.5: an exception, whatever others come within it, and the return go on at its pc, with all else of Status as it was.
func TestThereAndBack(t *testing.T) {
	r := rand.New(rand.NewSource(86))
	codes := theCodes()
	for range 4000 {
		c := anyRegisters(r)
		c.Status = setBit(c.Status, 1, false)
		pc, delay := r.Uint32(), r.Intn(2) == 1
		d := holdRaise(t, c, codes[r.Intn(len(codes))], r.Intn(2) == 1, pc, delay)
		if Pending(d) || User(d) {
			t.Fatalf("within an exception: %+v", d)
		}
		for range r.Intn(4) {
			d = holdRaise(t, d, codes[r.Intn(len(codes))], r.Intn(2) == 1, r.Uint32(), r.Intn(2) == 1)
		}
		if bit(d.Cause, 31) != delay {
			t.Fatalf("BD is of the outer one: %+v", d)
		}
		back, at := Return(d)
		want := pc
		if delay {
			want = pc - 4
		}
		if at != want || back.Status != c.Status {
			t.Fatalf("%+v: back at %#x, %+v; wanted %#x", c, at, back, want)
		}
	}
}

func anyRegisters(r *rand.Rand) api.Cp0 {
	return api.Cp0{Index: r.Uint32(), EntryLo: r.Uint32(), BadVAddr: r.Uint32(), Count: r.Uint32(), EntryHi: r.Uint32(),
		Compare: r.Uint32(), Status: r.Uint32(), Cause: r.Uint32(), EPC: r.Uint32()}
}

// P8.1 to P8.5: any calls behind one another, from registers of noughts and from any.
func TestAnyOrder(t *testing.T) {
	r := rand.New(rand.NewSource(87))
	words := edgeWords()
	word := func() uint32 {
		if r.Intn(2) == 0 {
			return words[r.Intn(len(words))]
		}
		return r.Uint32()
	}
	codes := theCodes()
	for run := range 60 {
		c := api.Cp0{}
		if run%2 == 1 {
			c = anyRegisters(r)
		}
		for range 200 {
			switch r.Intn(6) {
			case 0:
				c = holdWrite(t, c, r.Intn(18)-1, word())
			case 1:
				c = holdRaise(t, c, codes[r.Intn(len(codes))], r.Intn(2) == 1, word(), r.Intn(2) == 1)
			case 2:
				c = holdReturn(t, c)
			case 3:
				c = holdBad(t, c, word(), r.Intn(2) == 1)
			case 4:
				c.Compare = c.Count + uint32(r.Intn(3))
				c = holdTick(t, c, word())
			case 5:
				c = holdTick(t, c, uint32(r.Intn(32)))
			}
			holdAsked(t, c)
		}
	}
}

// The chapter's examples.
func TestExamples(t *testing.T) {
	if c := Write(api.Cp0{}, api.RegStatus, 0xffffffff); c.Status != 0x0000ff13 {
		t.Errorf("%#x", c.Status)
	}
	if c, to := Raise(api.Cp0{}, api.ExcSys, false, 0x104, true); c.EPC != 0x100 || c.Cause != 0x80000020 || to != 0x80000180 {
		t.Errorf("%+v, %#x", c, to)
	}
}
