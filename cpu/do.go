package cpu

import (
	"zoetrope/api"
	"zoetrope/bus"
	"zoetrope/cp0"
	"zoetrope/decode"
	"zoetrope/tlb"
	"zoetrope/words"
)

// linkAt is the register for the way back of branches and jumps that name none.
const linkAt = 31

// farBits are those that a jump leaves of the place behind it.
const farBits = 15 << 28

// slotBits are the bits of Index that name a slot; noSlot tells that none was found.
const (
	slotBits = api.Slots - 1
	noSlot   = 1 << 31
)

// put makes a register another one, but not the first, which is 0 always.
func put(c *api.Cpu, n int, v uint32) {
	if n != 0 {
		c.R[n] = v
	}
}

// branch does a branch or a jump: its delay slot comes now, whether it is taken or not.
func branch(c *api.Cpu, i api.Instr) {
	to, taken := target(c, i)
	goTo(c, c.Next)
	c.Delay = true
	if taken {
		c.Next = to
	}
}

// target is where a branch or a jump leads, and is it taken? One that links has written its register then.
func target(c *api.Cpu, i api.Instr) (uint32, bool) {
	s := c.R[i.Rs] // ahead of the link, which may go to the same register
	behind, by := c.PC+wordSize, wordSize*uint32(i.Imm)
	switch i.Op {
	case api.OpBltzal:
		link(c, linkAt)
		fallthrough
	case api.OpBltz:
		return behind + by, isBelow(s)
	case api.OpBgezal:
		link(c, linkAt)
		fallthrough
	case api.OpBgez:
		return behind + by, !isBelow(s)
	case api.OpJal:
		link(c, linkAt)
		fallthrough
	case api.OpJ:
		return behind&farBits | by, true
	case api.OpJalr:
		link(c, i.Rd)
		fallthrough
	case api.OpJr:
		return s, true
	}
	return behind + by, holds(i.Op, s, c.R[i.Rt])
}

// link notes the way back, which leads behind the delay slot.
func link(c *api.Cpu, n int) { put(c, n, c.PC+2*wordSize) }

// holds tells whether what a branch without a link asks is so.
func holds(op int, s, t uint32) bool {
	switch op {
	case api.OpBeq:
		return s == t
	case api.OpBne:
		return s != t
	case api.OpBlez:
		return isBelow(s) || s == 0
	}
	return !isBelow(s) && s != 0
}

func isBelow(a uint32) bool { return words.Less(a, 0, true) }

// do does an instruction that is neither branch nor jump; or tells why it can't be done: then nothing is another one.
func do(c *api.Cpu, b *bus.Bus, i api.Instr) (fault, bool) {
	s, t := c.R[i.Rs], c.R[i.Rt]
	switch i.Op {
	case api.OpSyscall:
		return fault{code: api.ExcSys}, false
	case api.OpBreak:
		return fault{code: api.ExcBp}, false
	case api.OpTeq:
		return fault{code: api.ExcTr}, s != t
	case api.OpTne:
		return fault{code: api.ExcTr}, s == t
	case api.OpMovz, api.OpMovn:
		if (t == 0) == (i.Op == api.OpMovz) {
			put(c, i.Rd, s)
		}
	case api.OpMfhi, api.OpMthi, api.OpMflo, api.OpMtlo:
		moveHalf(c, i)
	case api.OpMult, api.OpMultu, api.OpDiv, api.OpDivu:
		makeHalves(c, i.Op, s, t)
	case api.OpMfc0, api.OpMtc0, api.OpTlbr, api.OpTlbwi, api.OpTlbp, api.OpEret:
		manage(c, i)
	case api.OpLb, api.OpLh, api.OpLw, api.OpLbu, api.OpLhu, api.OpLl:
		return load(c, b, i)
	case api.OpSb, api.OpSh, api.OpSw, api.OpSc:
		return store(c, b, i)
	default:
		return compute(c, i)
	}
	return fault{}, true
}

// moveHalf moves Hi or Lo to a register, or the other way.
func moveHalf(c *api.Cpu, i api.Instr) {
	switch i.Op {
	case api.OpMfhi:
		put(c, i.Rd, c.Hi)
	case api.OpMflo:
		put(c, i.Rd, c.Lo)
	case api.OpMthi:
		c.Hi = c.R[i.Rs]
	case api.OpMtlo:
		c.Lo = c.R[i.Rs]
	}
}

// makeHalves multiplies and divides; a division by 0 leaves both halves as they are.
func makeHalves(c *api.Cpu, op int, s, t uint32) {
	switch op {
	case api.OpMult, api.OpMultu:
		c.Hi, c.Lo = words.Mul(s, t, op == api.OpMult)
	case api.OpDiv, api.OpDivu:
		quotient, left, err := words.Div(s, t, op == api.OpDiv)
		if err == api.OK {
			c.Hi, c.Lo = left, quotient
		}
	}
}

// compute does an instruction that makes one number of two.
func compute(c *api.Cpu, i api.Instr) (fault, bool) {
	x, y, to := operands(c, i)
	v, over := result(i.Op, x, y)
	if over {
		return fault{code: api.ExcOv}, false
	}
	put(c, to, v)
	return fault{}, true
}

// operands are the two numbers, and the register for what is made of them.
func operands(c *api.Cpu, i api.Instr) (uint32, uint32, int) {
	switch decode.Form(i.Op) {
	case formSH:
		return c.R[i.Rt], uint32(i.Sa), i.Rd
	case formSV:
		return c.R[i.Rt], c.R[i.Rs], i.Rd
	case formI, formIU, formLUI:
		return c.R[i.Rs], uint32(i.Imm), i.Rt
	}
	return c.R[i.Rs], c.R[i.Rt], i.Rd
}

// result is what is made of two numbers, and: does it leave the numbers with a sign, where that is asked?
func result(op int, x, y uint32) (uint32, bool) {
	v := uint32(0)
	switch op {
	case api.OpAdd, api.OpAddi:
		return words.Add(x, y)
	case api.OpSub:
		return words.Sub(x, y)
	case api.OpAddu, api.OpAddiu:
		v, _ = words.Add(x, y)
	case api.OpSubu:
		v, _ = words.Sub(x, y)
	case api.OpAnd, api.OpAndi:
		v = x & y
	case api.OpOr, api.OpOri:
		v = x | y
	case api.OpXor, api.OpXori:
		v = x ^ y
	case api.OpNor:
		v = ^(x | y)
	case api.OpSlt, api.OpSlti:
		v = oneIf(words.Less(x, y, true))
	case api.OpSltu, api.OpSltiu:
		v = oneIf(words.Less(x, y, false))
	case api.OpSll, api.OpSllv:
		v = words.Shift(api.ShiftLeft, x, int(y))
	case api.OpSrl, api.OpSrlv:
		v = words.Shift(api.ShiftRight, x, int(y))
	case api.OpSra, api.OpSrav:
		v = words.Shift(api.ShiftArith, x, int(y))
	case api.OpLui:
		v = y << 16
	case api.OpMul:
		_, v = words.Mul(x, y, true)
	case api.OpClz, api.OpClo:
		v = uint32(words.Lead(x, op == api.OpClo))
	}
	return v, false
}

func oneIf(yes bool) uint32 {
	if yes {
		return 1
	}
	return 0
}

// manage does an instruction that is the system's alone.
func manage(c *api.Cpu, i api.Instr) {
	slot := int(c.C.Index & slotBits)
	switch i.Op {
	case api.OpMfc0:
		put(c, i.Rt, cp0.Read(c.C, i.Rd))
	case api.OpMtc0:
		c.C = cp0.Write(c.C, i.Rd, c.R[i.Rt])
	case api.OpTlbr:
		e, _ := tlb.Read(c.T, slot)
		c.C.EntryHi, c.C.EntryLo = e.Hi, e.Lo
	case api.OpTlbwi:
		c.T, _ = tlb.Write(c.T, slot, api.Entry{Hi: c.C.EntryHi, Lo: c.C.EntryLo})
	case api.OpTlbp:
		c.C.Index = probed(c)
	case api.OpEret:
		// In Next's place, since a step that was done goes on there.
		c.C, c.Next = cp0.Return(c.C)
		c.Link = false
	}
}

// probed is Index behind a search for EntryHi.
func probed(c *api.Cpu) uint32 {
	slot := tlb.Find(c.T, c.C.EntryHi, c.C.EntryHi&spaceBits)
	if slot < 0 {
		return c.C.Index | noSlot
	}
	return uint32(slot)
}

// sizeOf is how many bytes a load loads, a store stores.
func sizeOf(op int) int {
	switch op {
	case api.OpLb, api.OpLbu, api.OpSb:
		return 1
	case api.OpLh, api.OpLhu, api.OpSh:
		return 2
	}
	return wordSize
}

// load and store ask where the number lies ahead of all else, and change nothing if it can't be reached.
func load(c *api.Cpu, b *bus.Bus, i api.Instr) (fault, bool) {
	size := sizeOf(i.Op)
	at, f, ok := place(c, c.R[i.Rs]+uint32(i.Imm), size, false)
	if !ok {
		return f, false
	}
	v, err := b.Load(at, size)
	if err != api.OK {
		return fault{code: api.ExcDBE}, false
	}
	put(c, i.Rt, words.Ext(v, 8*size, i.Op == api.OpLb || i.Op == api.OpLh))
	c.Link = c.Link || i.Op == api.OpLl
	return fault{}, true
}

func store(c *api.Cpu, b *bus.Bus, i api.Instr) (fault, bool) {
	size := sizeOf(i.Op)
	at, f, ok := place(c, c.R[i.Rs]+uint32(i.Imm), size, true)
	if !ok {
		return f, false
	}
	// Only now, since the address is asked even if nothing is stored.
	if i.Op == api.OpSc && !c.Link {
		put(c, i.Rt, 0)
		return fault{}, true
	}
	if b.Store(at, size, c.R[i.Rt]) != api.OK {
		return fault{code: api.ExcDBE}, false
	}
	if i.Op == api.OpSc {
		put(c, i.Rt, 1)
		c.Link = false
	}
	return fault{}, true
}
