package cpu

import (
	"slices"
	"strconv"
	"strings"
	"testing"

	"zoetrope/api"
	"zoetrope/bus"
)

// told is chapter 4's table of instructions, so that the model shares nothing with the packages below but the bus.
const told = `
sll SH 0 0
srl SH 0 2
sra SH 0 3
sllv SV 0 4
srlv SV 0 6
srav SV 0 7
jr JR 0 8
jalr JALR 0 9
movz R 0 10
movn R 0 11
syscall N 0 12
break N 0 13
mfhi MF 0 16
mthi MT 0 17
mflo MF 0 18
mtlo MT 0 19
mult MD 0 24
multu MD 0 25
div MD 0 26
divu MD 0 27
add R 0 32
addu R 0 33
sub R 0 34
subu R 0 35
and R 0 36
or R 0 37
xor R 0 38
nor R 0 39
slt R 0 42
sltu R 0 43
teq MD 0 52
tne MD 0 54
mul R 28 2
clz CL 28 32
clo CL 28 33
bltz BZ 1 0
bgez BZ 1 1
bltzal BZ 1 16
bgezal BZ 1 17
j J 2 0
jal J 3 0
beq B2 4 0
bne B2 5 0
blez BZ 6 0
bgtz BZ 7 0
addi I 8 0
addiu I 9 0
slti I 10 0
sltiu I 11 0
andi IU 12 0
ori IU 13 0
xori IU 14 0
lui LUI 15 0
mfc0 C0 16 0
mtc0 C0 16 4
tlbr CO 16 1
tlbwi CO 16 2
tlbp CO 16 8
eret CO 16 24
lb M 32 0
lh M 33 0
lw M 35 0
lbu M 36 0
lhu M 37 0
sb M 40 0
sh M 41 0
sw M 43 0
ll M 48 0
sc M 56 0`

// kind is an instruction's name and form, the bits that tell it, and what they are.
type kind struct {
	name, form string
	mask, bits uint32
}

// inForm are the bits of a word, beside the major's, that are an instruction's own in each form.
var inForm = map[string]uint32{
	"SH": 0x03e0003f, "SV": 0x000007ff, "JR": 0x001fffff, "JALR": 0x001f07ff, "R": 0x000007ff, "N": 0x03ffffff,
	"MF": 0x03ff07ff, "MT": 0x001fffff, "MD": 0x0000ffff, "CL": 0x000007ff, "BZ": 0x001f0000, "J": 0, "B2": 0,
	"I": 0, "IU": 0, "LUI": 0x03e00000, "C0": 0x03e007ff, "CO": 0x03ffffff, "M": 0,
}

func allKinds() []kind {
	var all []kind
	for _, line := range strings.Fields(strings.ReplaceAll(strings.TrimSpace(told), " ", "/")) {
		f := strings.Split(line, "/")
		major, _ := strconv.Atoi(f[2])
		minor, _ := strconv.Atoi(f[3])
		k := kind{f[0], f[1], 0xfc000000 | inForm[f[1]], uint32(major)<<26 | uint32(minor)}
		switch f[1] {
		case "BZ":
			k.bits = uint32(major)<<26 | uint32(minor)<<16
		case "C0":
			k.bits = uint32(major)<<26 | uint32(minor)<<21
		case "CO":
			k.bits |= 16 << 21
		}
		all = append(all, k)
	}
	return all
}

var kinds = allKinds()

func kindOf(w uint32) (kind, bool) {
	for _, k := range kinds {
		if w&k.mask == k.bits {
			return k, k.form != "CL" || w>>16&31 == w>>11&31
		}
	}
	return kind{}, false
}

// model is a plain reckoning of a processor: words' bits and wide numbers, and an exception as a panic.
type model struct {
	c api.Cpu
	b *bus.Bus
}

type exception struct {
	code         int
	refill, page bool
	addr         int64 // below 0: none
}

func (m *model) isUser() bool { return m.c.C.Status&0x12 == 0x10 }

func (m *model) where(addr uint32, write bool) (uint32, int, bool) {
	more := 0
	if write {
		more = 1
	}
	if addr>>31 == 1 && m.isUser() {
		return 0, 4 + more, false
	}
	if addr>>30 == 2 {
		return addr << 3 >> 3, -1, false
	}
	n := m.find(addr)
	switch {
	case n < 0:
		return 0, 2 + more, true
	case m.c.T[n].Lo>>1%2 == 0:
		return 0, 2 + more, false
	case write && m.c.T[n].Lo>>2%2 == 0:
		return 0, 1, false
	}
	return m.c.T[n].Lo/256*256 + addr%256, -1, false
}

func (m *model) find(addr uint32) int {
	for n, e := range m.c.T {
		if e.Hi/256 == addr/256 && (e.Lo%2 == 1 || e.Hi%256 == m.c.C.EntryHi%256) {
			return n
		}
	}
	return -1
}

func (m *model) raise(x exception) {
	if x.addr >= 0 {
		m.c.C.BadVAddr = uint32(x.addr)
		if x.page {
			m.c.C.EntryHi = uint32(x.addr)/256*256 + m.c.C.EntryHi%256
		}
	}
	to := uint32(0x80000180)
	if m.c.C.Status>>1%2 == 0 {
		m.c.C.EPC, m.c.C.Cause = m.c.PC, m.c.C.Cause<<1>>1
		if m.c.Delay {
			m.c.C.EPC, m.c.C.Cause = m.c.PC-4, m.c.C.Cause+1<<31
		}
		if x.refill {
			to = 0x80000000
		}
	}
	m.c.C.Status |= 2
	m.c.C.Cause = m.c.C.Cause&0xffffff83 + uint32(x.code)*4
	m.c.PC, m.c.Next, m.c.Delay = to, to+4, false
}

func (m *model) step() {
	m.c.R[0] = 0
	lines := m.b.Tick()
	m.c.C.Count++
	if m.c.C.Count == m.c.C.Compare {
		m.c.C.Cause |= 0x8000
	}
	m.c.C.Cause = m.c.C.Cause&0xffff83ff + lines*1024
	defer func() {
		if x := recover(); x != nil {
			m.raise(x.(exception))
		}
	}()
	if m.c.C.Status%4 == 1 && m.c.C.Status>>8%256&(m.c.C.Cause>>8%256) != 0 {
		panic(exception{code: 0, addr: -1})
	}
	w, there := m.b.Peek(m.place(m.c.PC, 4, false))
	if !there {
		panic(exception{code: 6, addr: -1})
	}
	k, ok := kindOf(w)
	if !ok || m.isUser() && w>>26 == 16 {
		panic(exception{code: 10, addr: -1})
	}
	pc, next := m.c.Next, m.c.Next+4
	to, delay, jumps := m.do(k.name, w)
	if jumps {
		next = to
	}
	if k.name == "eret" {
		pc, next = to, to+4
	}
	m.c.PC, m.c.Next, m.c.Delay = pc, next, delay
}

func (m *model) place(addr, size uint32, write bool) uint32 {
	if addr%size != 0 {
		code := 4
		if write {
			code = 5
		}
		panic(exception{code: code, addr: int64(addr)})
	}
	at, code, refill := m.where(addr, write)
	if code >= 0 {
		panic(exception{code: code, refill: refill, page: code < 4, addr: int64(addr)})
	}
	return at
}

func (m *model) set(n, v uint32) {
	m.c.R[n] = v
	m.c.R[0] = 0
}

func (m *model) setSigned(n uint32, v int64) {
	if v < -1<<31 || v >= 1<<31 {
		panic(exception{code: 12, addr: -1})
	}
	m.set(n, uint32(v))
}

func (m *model) trap(code int, holds bool) {
	if holds {
		panic(exception{code: code, addr: -1})
	}
}

// do does an instruction: where it leads, does a delay slot come now, and is it taken?
func (m *model) do(name string, w uint32) (uint32, bool, bool) {
	rs, rd, off := w>>21&31, w>>11&31, uint32(int32(int16(w)))
	s := m.c.R[rs]
	near, far, back := m.c.PC+4+4*off, (m.c.PC+4)>>28<<28+w<<6>>4, m.c.PC+8
	signed := int32(s)
	switch name {
	case "beq":
		return near, true, s == m.c.R[w>>16&31]
	case "bne":
		return near, true, s != m.c.R[w>>16&31]
	case "blez":
		return near, true, signed <= 0
	case "bgtz":
		return near, true, signed > 0
	case "bltz":
		return near, true, signed < 0
	case "bgez":
		return near, true, signed >= 0
	case "bltzal":
		m.set(31, back)
		return near, true, signed < 0
	case "bgezal":
		m.set(31, back)
		return near, true, signed >= 0
	case "j":
		return far, true, true
	case "jal":
		m.set(31, back)
		return far, true, true
	case "jr":
		return s, true, true
	case "jalr":
		m.set(rd, back)
		return s, true, true
	case "eret":
		m.c.C.Status &^= 2
		m.c.Link = false
		return m.c.C.EPC, false, false
	}
	if w>>26 >= 32 {
		m.access(name, w>>16&31, s+off)
	} else if w>>26 == 16 {
		m.system(name, w>>16&31, rd)
	} else {
		m.reckon(name, w)
	}
	return 0, false, false
}

func (m *model) reckon(name string, w uint32) {
	rt, rd, sa, off := w>>16&31, w>>11&31, w>>6&31, int64(int16(w))
	s, t, low := m.c.R[w>>21&31], m.c.R[rt], w&0xffff
	a, b := int64(int32(s)), int64(int32(t))
	one := map[bool]uint32{true: 1}
	switch name {
	case "sll":
		m.set(rd, t<<sa)
	case "srl":
		m.set(rd, t>>sa)
	case "sra":
		m.set(rd, uint32(b>>sa))
	case "sllv":
		m.set(rd, t<<(s%32))
	case "srlv":
		m.set(rd, t>>(s%32))
	case "srav":
		m.set(rd, uint32(b>>(s%32)))
	case "add":
		m.setSigned(rd, a+b)
	case "sub":
		m.setSigned(rd, a-b)
	case "addu":
		m.set(rd, uint32(a+b))
	case "subu":
		m.set(rd, uint32(a-b))
	case "and":
		m.set(rd, s&t)
	case "or":
		m.set(rd, s|t)
	case "xor":
		m.set(rd, s^t)
	case "nor":
		m.set(rd, ^s&^t)
	case "slt":
		m.set(rd, one[a < b])
	case "sltu":
		m.set(rd, one[s < t])
	case "movz":
		if t == 0 {
			m.set(rd, s)
		}
	case "movn":
		if t != 0 {
			m.set(rd, s)
		}
	case "addi":
		m.setSigned(rt, a+off)
	case "addiu":
		m.set(rt, uint32(a+off))
	case "slti":
		m.set(rt, one[a < off])
	case "sltiu":
		m.set(rt, one[s < uint32(off)])
	case "andi":
		m.set(rt, s&low)
	case "ori":
		m.set(rt, s|low)
	case "xori":
		m.set(rt, s^low)
	case "lui":
		m.set(rt, low*65536)
	case "mul":
		m.set(rd, s*t)
	case "clz":
		m.set(rd, leading(s, '0'))
	case "clo":
		m.set(rd, leading(s, '1'))
	default:
		m.wide(name, rd, s, t)
	}
}

// leading counts digits, not bits, so that it is another way than the package's.
func leading(v uint32, digit byte) uint32 {
	text := strconv.FormatUint(uint64(v)+1<<32, 2)[1:]
	n := uint32(0)
	for n < 32 && text[n] == digit {
		n++
	}
	return n
}

func (m *model) wide(name string, rd, s, t uint32) {
	a, b := int64(int32(s)), int64(int32(t))
	switch name {
	case "mult":
		m.c.Hi, m.c.Lo = uint32(uint64(a*b)>>32), uint32(a*b)
	case "multu":
		m.c.Hi, m.c.Lo = uint32(uint64(s)*uint64(t)>>32), s*t
	case "div":
		if b != 0 {
			m.c.Lo, m.c.Hi = uint32(a/b), uint32(a%b)
		}
	case "divu":
		if t != 0 {
			m.c.Lo, m.c.Hi = s/t, s%t
		}
	case "mfhi":
		m.set(rd, m.c.Hi)
	case "mflo":
		m.set(rd, m.c.Lo)
	case "mthi":
		m.c.Hi = s
	case "mtlo":
		m.c.Lo = s
	case "syscall":
		m.trap(8, true)
	case "break":
		m.trap(9, true)
	case "teq":
		m.trap(13, s == t)
	case "tne":
		m.trap(13, s != t)
	}
}

func (m *model) access(name string, rt, addr uint32) {
	size := uint32(4)
	switch name[1] {
	case 'b':
		size = 1
	case 'h':
		size = 2
	}
	if name[0] == 's' {
		at := m.place(addr, size, true)
		if name == "sc" && !m.c.Link {
			m.set(rt, 0)
			return
		}
		m.trap(7, m.b.Store(at, int(size), m.c.R[rt]) != 0)
		if name == "sc" {
			m.set(rt, 1)
			m.c.Link = false
		}
		return
	}
	v, e := m.b.Load(m.place(addr, size, false), int(size))
	m.trap(7, e != 0)
	switch name {
	case "lb":
		v = uint32(int8(v))
	case "lh":
		v = uint32(int16(v))
	case "ll":
		m.c.Link = true
	}
	m.set(rt, v)
}

// register is one of the system's, with the bits that may be written.
type register struct {
	v    *uint32
	bits uint32
}

func (m *model) registers() map[uint32]register {
	c := &m.c.C
	return map[uint32]register{
		0: {&c.Index, 7}, 2: {&c.EntryLo, 0xffffff07}, 8: {&c.BadVAddr, 0}, 9: {&c.Count, top}, 10: {&c.EntryHi, top},
		11: {&c.Compare, top}, 12: {&c.Status, 0xff13}, 13: {&c.Cause, 0x300}, 14: {&c.EPC, top},
	}
}

func (m *model) system(name string, rt, rd uint32) {
	c := &m.c.C
	e := &m.c.T[c.Index%8]
	reg, ok := m.registers()[rd]
	switch name {
	case "mfc0":
		v := uint32(0)
		if ok {
			v = *reg.v
		}
		m.set(rt, v)
	case "mtc0":
		if ok {
			*reg.v = *reg.v&^reg.bits + m.c.R[rt]&reg.bits
		}
		if rd == 11 {
			c.Cause &^= 0x8000
		}
	case "tlbr":
		c.EntryHi, c.EntryLo = e.Hi, e.Lo
	case "tlbwi":
		e.Hi, e.Lo = c.EntryHi, c.EntryLo&0xffffff07
	case "tlbp":
		if n := m.find(c.EntryHi); n >= 0 {
			c.Index = uint32(n)
		} else {
			c.Index |= 1 << 31
		}
	}
}

// pair is a processor with a bus, and what they should be.
type pair struct {
	c *api.Cpu
	b *bus.Bus
	m *model
}

func newPair(c api.Cpu, b *bus.Bus) pair { return pair{&c, b, &model{c, b.Clone()}} }

// step makes a step, and holds the processor's state against the model.
func (p pair) step(t *testing.T) {
	t.Helper()
	was := *p.c
	p.m.step()
	Step(p.c, p.b)
	if *p.c != p.m.c {
		t.Fatalf("from\n%+v to\n%+v, wanted\n%+v", was, *p.c, p.m.c)
	}
}

// hold holds the bus against the model's.
func (p pair) hold(t *testing.T) {
	t.Helper()
	sameBus(t, p.b, p.m.b)
}

func sameBus(t *testing.T, got, want *bus.Bus) {
	t.Helper()
	if g, w := got.Devices(), want.Devices(); g != w {
		t.Fatalf("devices\n%q, wanted\n%q", g, w)
	}
	if got.Memory().Image() != want.Memory().Image() || !slices.Equal(got.Memory().Dirty(), want.Memory().Dirty()) {
		t.Fatal("another memory than wanted")
	}
}
