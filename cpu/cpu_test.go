package cpu

import (
	"math/rand"
	"testing"

	"zoetrope/api"
	"zoetrope/asm"
	"zoetrope/bus"
)

const top = 1<<32 - 1

// Places of exceptions: of a refill, and of all others.
const (
	refillAt = 0x80000000
	otherAt  = 0x80000180
)

// laid is a bus of 8 pages with lines from an address of memory on.
func laid(t *testing.T, at uint32, lines string) *bus.Bus {
	t.Helper()
	b, _ := bus.New(8)
	lay(t, b, at, lines)
	return b
}

func lay(t *testing.T, b *bus.Bus, at uint32, lines string) {
	t.Helper()
	list, e := asm.Lines(lines)
	if e != api.OK {
		t.Fatalf("%q: %d", lines, e)
	}
	for n, w := range list {
		if e := b.Store(at+4*uint32(n), 4, w); e != api.OK {
			t.Fatal(e)
		}
	}
}

// gone is the state behind a step that was done, but for what the instruction itself changes.
func gone(c api.Cpu) api.Cpu {
	c.C.Count++
	c.PC, c.Next, c.Delay = c.Next, c.Next+4, false
	return c
}

// raised is the state behind a step with an exception outside of all others, but for the address that was wrong.
func raised(c api.Cpu, code int, to uint32) api.Cpu {
	c.C.Count++
	c.C.Status |= 2
	c.C.Cause = c.C.Cause&0x0000ff00 | uint32(code)<<2
	c.C.EPC = c.PC
	if c.Delay {
		c.C.EPC -= 4
		c.C.Cause |= 1 << 31
	}
	c.PC, c.Next, c.Delay = to, to+4, false
	return c
}

// bad is the state with that address noted, with its page or without.
func bad(c api.Cpu, addr uint32, page bool) api.Cpu {
	c.C.BadVAddr = addr
	if page {
		c.C.EntryHi = addr&^255 | c.C.EntryHi&255
	}
	return c
}

// leads makes a step, and holds the whole state against the wanted one.
func leads(t *testing.T, what any, c api.Cpu, b *bus.Bus, want api.Cpu) {
	t.Helper()
	was := c
	Step(&c, b)
	if c != want {
		t.Errorf("%v: from\n%+v to\n%+v, wanted\n%+v", what, was, c, want)
	}
}

// P13.1
func TestReset(t *testing.T) {
	if c := Reset(); c != (api.Cpu{PC: 0x80000200, Next: 0x80000204}) {
		t.Errorf("%+v", c)
	}
	if api.ErrCpuForm != 130 || api.ResetAt != 0x80000200 {
		t.Error(api.ErrCpuForm, api.ResetAt)
	}
}

// placed is what Where should answer of an address.
type placed struct {
	addr   uint32
	write  bool
	at     uint32
	code   int
	refill bool
}

func holdPlaces(t *testing.T, what string, c api.Cpu, list []placed) {
	t.Helper()
	was := c
	for _, x := range list {
		if at, code, refill := Where(&c, x.addr, x.write); at != x.at || code != x.code || refill != x.refill {
			t.Errorf("%s: Where(%#x, %v): %#x, %d, %v; wanted %+v", what, x.addr, x.write, at, code, refill, x)
		}
	}
	if c != was {
		t.Errorf("%s: Where changed the state", what)
	}
}

// P13.1: an empty buffer maps the page 0 of the space 0, but not as a valid one.
func TestWhereEdges(t *testing.T) {
	direct := []placed{
		{1 << 31, false, 0, -1, false}, {1 << 31, true, 0, -1, false}, {0x80000201, true, 0x201, -1, false},
		{0x9f000100, false, 0x1f000100, -1, false}, {0x9fffffff, true, 0x1fffffff, -1, false}, {0xa0000000, false, 0, -1, false},
		{0xa0000204, true, 0x204, -1, false}, {0xbf000300, true, 0x1f000300, -1, false}, {0xbfffffff, false, 0x1fffffff, -1, false},
		{0xbfffffff, true, 0x1fffffff, -1, false}, {0xc0000000, false, 0, 2, true}, {0xc0000000, true, 0, 3, true},
		{top, false, 0, 2, true}, {top, true, 0, 3, true},
	}
	low := []placed{
		{0, false, 0, 2, false}, {255, true, 0, 3, false}, {256, false, 0, 2, true}, {256, true, 0, 3, true},
		{0x1f000000, false, 0, 2, true}, {1<<31 - 1, false, 0, 2, true}, {1<<31 - 1, true, 0, 3, true},
	}
	c := Reset()
	for _, status := range []uint32{0, 1, 2, 3, 0x12, 0x13, 0xff12, 0xffffffef, top} {
		c.C.Status = status
		holdPlaces(t, "the system's", c, append(direct, low...))
	}
	refused := []placed{}
	for _, x := range direct {
		code := 4
		if x.write {
			code = 5
		}
		refused = append(refused, placed{x.addr, x.write, 0, code, false})
	}
	for _, status := range []uint32{0x10, 0x11, 0xff10, 0xfffffffd} {
		c.C.Status = status
		holdPlaces(t, "a user's", c, append(refused, low...))
	}
}

// P13.1: pages that are there, not valid, not to be written; for the system and for a user, low and high.
func TestWherePages(t *testing.T) {
	c := Reset()
	c.T[0] = api.Entry{Hi: 0x00000500, Lo: 0x00001206}
	c.T[1] = api.Entry{Hi: 0x00000600, Lo: 0x00001300}
	c.T[2] = api.Entry{Hi: 0x00000700, Lo: 0x00001402}
	c.T[3] = api.Entry{Hi: 0x00000800, Lo: 0x00001504}
	c.T[4] = api.Entry{Hi: 0xc0000000, Lo: 0xffffff06}
	c.T[5] = api.Entry{Hi: 0xffffff00, Lo: 0x1f000206}
	c.T[6] = api.Entry{Hi: 0x7fffff00, Lo: 0x00000006}
	c.T[7] = api.Entry{Hi: 0x80000000, Lo: 0x00000306}
	low := []placed{
		{0x534, false, 0x1234, -1, false}, {0x5ff, true, 0x12ff, -1, false},
		{0x600, false, 0, 2, false}, {0x600, true, 0, 3, false},
		{0x7fc, false, 0x14fc, -1, false}, {0x7fc, true, 0, 1, false},
		{0x800, false, 0, 2, false}, {0x800, true, 0, 3, false},
		{0x4ff, false, 0, 2, true}, {0x900, true, 0, 3, true},
		{1<<31 - 1, true, 255, -1, false},
	}
	high := []placed{
		{1 << 31, false, 0, -1, false}, {0x80000001, true, 1, -1, false}, {0xc0000001, true, 0xffffff01, -1, false},
		{0xc0000100, false, 0, 2, true}, {top, false, 0x1f0002ff, -1, false}, {top - 255, true, 0x1f000200, -1, false},
	}
	holdPlaces(t, "the system's", c, append(low, high...))
	c.C.Status = 16
	holdPlaces(t, "a user's", c, append(low, placed{0xc0000001, false, 0, 4, false}, placed{top, true, 0, 5, false}))
}

// P13.1: the space is the lowest 8 bits of EntryHi, whatever stands above them; a global page is in each.
func TestWhereSpaces(t *testing.T) {
	c := Reset()
	c.T[2] = api.Entry{Hi: 0x00000507, Lo: 0x00001206}
	c.T[5] = api.Entry{Hi: 0x00000509, Lo: 0x00001306}
	c.T[6] = api.Entry{Hi: 0x00000633, Lo: 0x00001407}
	for hi, want := range map[uint32]placed{
		0x07: {0x504, true, 0x1204, -1, false}, 0xffffff07: {0x504, true, 0x1204, -1, false}, 0x00000509: {0x504, false, 0x1304, -1, false},
		0: {0x504, false, 0, 2, true}, 0x08: {0x504, true, 0, 3, true}, 0x87: {0x504, false, 0, 2, true}, 0x107: {0x600, true, 0x1400, -1, false}, 0xff: {0x6ff, false, 0x14ff, -1, false},
	} {
		c.C.EntryHi = hi
		holdPlaces(t, "a space", c, []placed{want})
	}
}

// P13.1: any state and any address.
func TestWhereAny(t *testing.T) {
	r := rand.New(rand.NewSource(131))
	for range 20000 {
		c := anyState(r)
		m := model{c: c}
		for range 8 {
			addr, write := anyAddr(r), r.Intn(2) == 0
			at, code, refill := m.where(addr, write)
			holdPlaces(t, "any", c, []placed{{addr, write, at, code, refill}})
		}
	}
}

// P13.2: each step is counted, whatever becomes of it; the lines of devices stand in Cause, and Count's too, though nothing is taken.
func TestTickAlways(t *testing.T) {
	for _, line := range []string{"addiu $1,$1,1", "syscall", "j 128", "sw $0,1($0)", "eret"} {
		b := laid(t, 0x200, line)
		b.Store(api.DevTimer, 4, 1)
		c := Reset()
		c.C.Count, c.C.Compare = 41, 42
		Step(&c, b)
		if c.C.Count != 42 || c.C.Cause&0xff00 != 0x8400 {
			t.Errorf("%s: %+v", line, c.C)
		}
	}
	b := laid(t, 0x200, "addiu $1,$1,1\nmfc0 $2,$9\nmfc0 $3,$13")
	b.Store(api.DevUart+4, 4, 1)
	b.Feed(api.Event{Kind: api.EventByte, V: 9})
	c := Reset()
	c.C.Count = top
	for range 3 {
		Step(&c, b)
	}
	if c.C.Count != 2 || c.R[2] != 1 || c.R[3] != 0x8800 {
		t.Errorf("%+v", c)
	}
}

// P13.2: the devices' step comes ahead of the fetch: a sector that goes to memory with it is what is done.
func TestTickFirst(t *testing.T) {
	b := laid(t, 0x200, "addiu $1,$0,1")
	lay(t, b, 0x300, "addiu $2,$0,2")
	move := func(addr, way uint32) {
		b.Store(api.DevDma, 4, addr)
		b.Store(api.DevDma+8, 4, way)
	}
	move(0x300, 2)
	for range 10 {
		b.Tick()
	}
	move(0x200, 1)
	for range 9 {
		b.Tick()
	}
	c := Reset()
	want := gone(c)
	want.R[2], want.C.Cause = 2, 0x1000
	leads(t, "a move", c, b, want)
}

// P13.2: each of the eight that may be pending is taken, if it has its bit in the mask, IE is 1 and EXL 0; then the instruction is not done.
func TestInterrupts(t *testing.T) {
	for n := range 8 {
		if n == 5 || n == 6 {
			continue // no device has these lines
		}
		for _, status := range []uint32{0x0001, 0x0002, 0x0003, 0xff00, 0xff02, 0xff03, 0xff01, 0xff11, 0x100<<n | 1, 0xff01 &^ (0x100 << n)} {
			b := laid(t, 0x200, "addiu $1,$0,1")
			c := Reset()
			pend(t, n, &c, b)
			c.C.Status = status
			want := gone(c)
			want.R[1] = 1
			if status&3 == 1 && status>>8>>n&1 == 1 {
				want = raised(c, 0, otherAt)
			}
			want.C.Cause |= 0x100 << n
			leads(t, n, c, b, want)
		}
	}
}

// pend makes one of those pending with the next step.
func pend(t *testing.T, n int, c *api.Cpu, b *bus.Bus) {
	t.Helper()
	switch n {
	case 0, 1:
		c.C.Cause |= 0x100 << n
	case 2:
		b.Store(api.DevTimer, 4, 1)
	case 3:
		b.Store(api.DevUart+4, 4, 1)
		b.Feed(api.Event{Kind: api.EventByte, V: 65})
	case 4:
		b.Store(api.DevDma+8, 4, 2)
		for range 9 {
			b.Tick()
		}
	case 7:
		c.C.Count, c.C.Compare = 9, 10
	}
}

// P13.2: the bits 5 and 6 follow their lines, which no device has: they are never pending.
func TestNoLines(t *testing.T) {
	b := laid(t, 0x200, "addiu $1,$0,1")
	c := Reset()
	c.C.Status, c.C.Cause = 0xff01, 0x7c00
	want := gone(c)
	want.R[1], want.C.Cause = 1, 0
	leads(t, "no lines", c, b, want)
}

// P13.2: an interrupt in a delay slot goes back to the branch; behind eret it is made again.
func TestInterruptInDelay(t *testing.T) {
	b := laid(t, 0x200, "beq $0,$0,4\naddiu $1,$1,1")
	lay(t, b, 0x214, "addiu $2,$2,1")
	lay(t, b, 0x180, "mtc0 $0,$13\neret")
	c := Reset()
	c.C.Status = 0x0101
	Step(&c, b)
	c.C.Cause |= 0x100
	want := raised(c, 0, otherAt)
	if want.C.EPC != 0x80000200 || want.C.Cause != 0x80000100 {
		t.Fatalf("%+v", want)
	}
	leads(t, "in a delay slot", c, b, want)
	for range 6 {
		Step(&c, b)
	}
	if c.R[1] != 1 || c.R[2] != 1 || c.PC != 0x80000218 {
		t.Errorf("%+v", c)
	}
}

// P13.2: an interrupt comes ahead of all that could be wrong with the fetch.
func TestInterruptFirst(t *testing.T) {
	b := laid(t, 0x200, "syscall")
	b.Store(0x204, 4, top)
	for _, pc := range []uint32{0, 2, 0x600, 0x80000200, 0x80000204, 0x80010000, 0x9f000000, 0xc0000000, top} {
		for _, status := range []uint32{0xff01, 0xff11} {
			for _, delay := range []bool{false, true} {
				c := Reset()
				c.PC, c.Next, c.Delay = pc, 0x1234, delay
				c.C.Status, c.C.Cause, c.C.BadVAddr, c.C.EntryHi = status, 0x200, 77, 0x1234
				leads(t, pc, c, b, raised(c, 0, otherAt))
			}
		}
	}
}

// P13.2: a fetch that fails in each way, the first of several that apply, in a delay slot and not.
func TestFetchFails(t *testing.T) {
	b := laid(t, 0x200, "mfc0 $1,$9\ntlbr\naddiu $0,$0,1")
	b.Store(0x20c, 4, top)
	b.Store(0x210, 4, 0x7c000000)
	for _, x := range []struct {
		pc     uint32
		user   bool
		code   int
		to     uint32
		noted  bool
		ofPage bool
	}{
		{0x80000201, false, 4, otherAt, true, false}, {0x80000202, false, 4, otherAt, true, false}, {0x80000203, false, 4, otherAt, true, false},
		{0x80000202, true, 4, otherAt, true, false}, {0x00000602, false, 4, otherAt, true, false}, {top, false, 4, otherAt, true, false},
		{0x80000208, true, 4, otherAt, true, false}, {0xc0000000, true, 4, otherAt, true, false}, {top - 3, true, 4, otherAt, true, false},
		{0x00000600, false, 2, refillAt, true, true}, {0x00000600, true, 2, refillAt, true, true}, {0x7ffffffc, true, 2, refillAt, true, true},
		{0xc0000000, false, 2, refillAt, true, true}, {top - 3, false, 2, refillAt, true, true},
		{0x00000704, false, 2, otherAt, true, true}, {0x00000704, true, 2, otherAt, true, true},
		{0x80000800, false, 6, otherAt, false, false}, {0xa0000800, false, 6, otherAt, false, false}, {0x9f000000, false, 6, otherAt, false, false},
		{0xbf000100, false, 6, otherAt, false, false}, {0xbffffffc, false, 6, otherAt, false, false}, {0x00000900, true, 6, otherAt, false, false},
		{0x8000020c, false, 10, otherAt, false, false}, {0x80000210, false, 10, otherAt, false, false}, {0x0000080c, true, 10, otherAt, false, false},
		{0x00000800, true, 10, otherAt, false, false}, {0x00000804, true, 10, otherAt, false, false},
	} {
		for _, delay := range []bool{false, true} {
			c := Reset()
			c.PC, c.Next, c.Delay, c.Link, c.R[1] = x.pc, 0x99999999, delay, true, 55
			c.C.EntryHi, c.C.BadVAddr, c.C.EPC, c.C.Cause = 0x44444433, 88, 99, 1<<31|0x300
			c.T[1] = api.Entry{Hi: 0x00000733, Lo: 0x00000204}
			c.T[2] = api.Entry{Hi: 0x00000833, Lo: 0x00000202}
			c.T[3] = api.Entry{Hi: 0x00000933, Lo: 0x00010002}
			if x.user {
				c.C.Status = 16
			}
			want := raised(c, x.code, x.to)
			if x.noted {
				want = bad(want, x.pc, x.ofPage)
			}
			leads(t, x, c, b, want)
		}
	}
}

// P13.2: the last word of memory is done, the first behind it is none; so of a page that is mapped.
func TestLastWord(t *testing.T) {
	for _, pages := range []int{4, 64} {
		b, _ := bus.New(pages)
		end := uint32(256 * pages)
		lay(t, b, end-4, "addiu $1,$0,7")
		for _, base := range []uint32{0x80000000, 0xa0000000} {
			c := Reset()
			goTo(&c, base+end-4)
			want := gone(c)
			want.R[1] = 7
			leads(t, pages, c, b, want)
			leads(t, pages, want, b, raised(want, 6, otherAt))
		}
		c := Reset()
		goTo(&c, 0x12fc)
		c.T[0] = api.Entry{Hi: 0x1200, Lo: end - 256 + 2}
		c.T[1] = api.Entry{Hi: 0x1300, Lo: end + 2}
		c.C.Status = 16
		want := gone(c)
		want.R[1] = 7
		leads(t, pages, c, b, want)
		leads(t, pages, want, b, raised(want, 6, otherAt))
	}
}

// P13.2: the system's instructions are none in a user's program; they are in the system's, also with UM, if EXL is 1. All others are for both.
func TestSystemsAlone(t *testing.T) {
	for _, k := range kinds {
		systems := k.form == "C0" || k.form == "CO"
		for _, status := range []uint32{0, 2, 0x10, 0x12} {
			b, _ := bus.New(8)
			b.Store(0x200, 4, k.bits)
			c := Reset()
			goTo(&c, 0x500)
			c.T[0], c.C.EntryHi = api.Entry{Hi: 0x500, Lo: 0x202}, 0x500
			c.C.Status = status
			Step(&c, b)
			if isRI := c.C.Cause>>2&31 == 10; isRI != (systems && status == 0x10) {
				t.Errorf("%s with %#x: %+v", k.name, status, c.C)
			}
		}
	}
}

// P13.2: behind what was done PC is Next, wherever that is, Next 4 behind it, and no delay slot comes.
func TestGoesOn(t *testing.T) {
	b := laid(t, 0x200, "addiu $1,$1,1")
	for _, next := range []uint32{0, 1, 0x80000200, 0x80000204, 0x12345678, top - 4, top - 3, top} {
		for _, delay := range []bool{false, true} {
			c := Reset()
			c.Next, c.Delay = next, delay
			want := c
			want.PC, want.Next, want.Delay, want.R[1], want.C.Count = next, next+4, false, 1, 1
			leads(t, next, c, b, want)
		}
	}
}

// P13.2: a place at the end of the addresses wraps round.
func TestPlacesWrap(t *testing.T) {
	b := laid(t, 0x2fc, "addiu $1,$0,5")
	c := Reset()
	goTo(&c, top-3)
	c.T[0] = api.Entry{Hi: 0xffffff00, Lo: 0x202}
	want := gone(c)
	want.R[1] = 5
	if want.PC != 0 || want.Next != 4 {
		t.Fatal(want.PC, want.Next)
	}
	leads(t, "wrap", c, b, want)
}

// P13.2, P13.3: an exception within another one leaves EPC and BD, and a refill goes where all others go; addresses are noted all the same.
func TestWithin(t *testing.T) {
	for _, x := range []struct {
		line string
		code uint32
		addr uint32
		page bool
	}{
		{"syscall", 8, 0, false}, {"break", 9, 0, false}, {"teq $0,$0", 13, 0, false}, {"add $1,$9,$9", 12, 0, false},
		{"lw $1,1536($0)", 2, 0x600, true}, {"sw $1,1536($0)", 3, 0x600, true}, {"lh $1,1($0)", 4, 1, false}, {"sh $1,1($0)", 5, 1, false},
		{"lw $1,0($8)", 7, 0, false},
	} {
		for _, delay := range []bool{false, true} {
			for _, bd := range []uint32{0, 1 << 31} {
				b := laid(t, 0x200, x.line)
				c := Reset()
				c.R[8], c.R[9], c.Delay = 0x80010000, 1<<31-1, delay
				c.C.Status, c.C.EPC, c.C.Cause, c.C.EntryHi = 0xff13, 0x1234, bd|0x7c, 0x11
				want := c
				want.C.Count, want.C.Cause = 1, bd|x.code<<2
				goTo(&want, otherAt)
				if x.addr != 0 {
					want = bad(want, x.addr, x.page)
				}
				leads(t, x.line, c, b, want)
			}
		}
	}
}

// P13.2, P13.3: an exception in a delay slot goes back to the branch, of each kind; the delay slot is over.
func TestExceptionInDelay(t *testing.T) {
	for _, branch := range []string{"beq $0,$0,9", "bne $0,$0,9", "j 400", "jr $8"} {
		b := laid(t, 0x200, branch+"\nsyscall")
		c := Reset()
		c.R[8] = 0x80000300
		Step(&c, b)
		if !c.Delay || c.PC != 0x80000204 {
			t.Fatalf("%s: %+v", branch, c)
		}
		want := raised(c, 8, otherAt)
		if want.C.EPC != 0x80000200 || want.C.Cause != 1<<31|8<<2 {
			t.Fatalf("%+v", want.C)
		}
		leads(t, branch, c, b, want)
	}
}

// The chapter's examples, and those of the whole that are steps alone.
func TestExamples(t *testing.T) {
	b := laid(t, 0x200, "addiu $1,$0,5")
	c := Reset()
	Step(&c, b)
	if c.R[1] != 5 || c.PC != 0x80000204 || c.C.Count != 1 {
		t.Errorf("%+v", c)
	}
	b.Store(0x200, 4, top)
	c = Reset()
	Step(&c, b)
	if c.C.EPC != 0x80000200 || c.C.Cause>>2&31 != 10 || c.PC != 0x80000180 {
		t.Errorf("%+v", c)
	}
	b = laid(t, 0x200, "addiu $1,$1,3\nj 128\naddiu $2,$2,1")
	c = Reset()
	for range 9 {
		Step(&c, b)
	}
	if c.R[1] != 9 || c.R[2] != 3 || c.C.Count != 9 || c.PC != 0x80000200 {
		t.Errorf("%+v", c)
	}
}
