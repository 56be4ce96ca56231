package cpu

import (
	"strconv"
	"strings"
	"testing"

	"zoetrope/api"
	"zoetrope/bus"
)

// regs are registers by their numbers.
type regs map[int]uint32

func (r regs) into(c *api.Cpu) {
	for n, v := range r {
		c.R[n] = v
	}
}

// loaded is a state with these registers, and something in all others, in Hi and in Lo, so that a change of them is seen.
func loaded(r regs) api.Cpu {
	c := Reset()
	for n := range 32 {
		c.R[n] = uint32(n) * 0x01010101
	}
	c.Hi, c.Lo = 0x11112222, 0x33334444
	r.into(&c)
	return c
}

const (
	most  = 1<<31 - 1 // the greatest number with a sign
	least = 1 << 31   // the least one
)

// P13.3: shifts by 0, 31 and between, and by registers with numbers above 31.
func TestShifts(t *testing.T) {
	holdLines(t, []lineOf{
		{"sll $7,$5,0", regs{5: 0x80000001}, regs{7: 0x80000001}}, {"sll $7,$5,1", regs{5: 0x80000001}, regs{7: 2}},
		{"sll $7,$5,31", regs{5: 3}, regs{7: 0x80000000}}, {"sll $5,$5,4", regs{5: 0x12345678}, regs{5: 0x23456780}},
		{"srl $7,$5,0", regs{5: 0x80000001}, regs{7: 0x80000001}}, {"srl $7,$5,4", regs{5: 0x80000010}, regs{7: 0x08000001}},
		{"srl $7,$5,31", regs{5: 0x80000000}, regs{7: 1}}, {"sra $7,$5,0", regs{5: 0x80000001}, regs{7: 0x80000001}},
		{"sra $7,$5,4", regs{5: 0x80000010}, regs{7: 0xf8000001}}, {"sra $7,$5,31", regs{5: 0x80000000}, regs{7: top}},
		{"sra $7,$5,31", regs{5: most}, regs{7: 0}}, {"sllv $7,$5,$3", regs{5: 5, 3: 0}, regs{7: 5}},
		{"sllv $7,$5,$3", regs{5: 5, 3: 31}, regs{7: 0x80000000}}, {"sllv $7,$5,$3", regs{5: 5, 3: 32}, regs{7: 5}},
		{"sllv $7,$5,$3", regs{5: 5, 3: 33}, regs{7: 10}}, {"sllv $7,$5,$3", regs{5: 5, 3: top}, regs{7: 0x80000000}},
		{"srlv $7,$5,$3", regs{5: 0x80000000, 3: 31}, regs{7: 1}}, {"srlv $7,$5,$3", regs{5: 0x80000000, 3: 0x80000024}, regs{7: 0x08000000}},
		{"srlv $7,$5,$3", regs{5: 0x80000000, 3: 64}, regs{7: 0x80000000}}, {"srav $7,$5,$3", regs{5: 0x80000000, 3: 31}, regs{7: top}},
		{"srav $7,$5,$3", regs{5: 0x80000000, 3: 0x80000024}, regs{7: 0xf8000000}}, {"srav $7,$5,$3", regs{5: 0x40000000, 3: 34}, regs{7: 0x10000000}},
		{"srav $3,$5,$3", regs{5: 0x80000000, 3: 1}, regs{3: 0xc0000000}}, {"sllv $5,$5,$3", regs{5: 1, 3: 8}, regs{5: 256}},
	})
}

// lineOf is a line, the registers ahead of it, and those that are others behind it.
type lineOf struct {
	line        string
	ahead, then regs
}

// holdLines does each line by itself, and holds the whole state against what is wanted.
func holdLines(t *testing.T, list []lineOf) {
	t.Helper()
	for _, x := range list {
		b := laid(t, 0x200, x.line)
		c := loaded(x.ahead)
		want := gone(c)
		x.then.into(&want)
		clone := b.Clone()
		clone.Tick()
		leads(t, x.line, c, b, want)
		sameBus(t, b, clone)
	}
}

// P13.3: sums, differences, bits and comparisons, of registers and with an imm; sums that just do not leave the numbers.
func TestReckoning(t *testing.T) {
	holdLines(t, []lineOf{
		{"add $7,$3,$5", regs{3: 2, 5: 3}, regs{7: 5}}, {"add $7,$3,$5", regs{3: most - 1, 5: 1}, regs{7: most}},
		{"add $7,$3,$5", regs{3: least + 1, 5: top}, regs{7: least}}, {"add $7,$3,$5", regs{3: most, 5: least}, regs{7: top}},
		{"add $3,$3,$3", regs{3: 1<<30 - 1}, regs{3: 1<<31 - 2}}, {"add $7,$3,$3", regs{3: 3 << 30}, regs{7: least}},
		{"addu $7,$3,$5", regs{3: most, 5: 1}, regs{7: least}}, {"addu $7,$3,$5", regs{3: top, 5: 2}, regs{7: 1}},
		{"addu $7,$3,$5", regs{3: least, 5: least}, regs{7: 0}}, {"sub $7,$3,$5", regs{3: 2, 5: 3}, regs{7: top}},
		{"sub $7,$3,$5", regs{3: least + 1, 5: 1}, regs{7: least}}, {"sub $7,$3,$5", regs{3: most - 1, 5: top}, regs{7: most}},
		{"sub $7,$3,$5", regs{3: top, 5: least}, regs{7: most}}, {"sub $7,$3,$5", regs{3: least, 5: least}, regs{7: 0}},
		{"subu $7,$3,$5", regs{3: least, 5: 1}, regs{7: most}}, {"subu $7,$3,$5", regs{3: 0, 5: least}, regs{7: least}},
		{"subu $7,$3,$5", regs{3: 5, 5: 7}, regs{7: top - 1}},
		{"and $7,$3,$5", regs{3: 0xff00ff00, 5: 0x0ff00ff0}, regs{7: 0x0f000f00}}, {"or $7,$3,$5", regs{3: 0xff00ff00, 5: 0x0ff00ff0}, regs{7: 0xfff0fff0}},
		{"xor $7,$3,$5", regs{3: 0xff00ff00, 5: 0x0ff00ff0}, regs{7: 0xf0f0f0f0}}, {"nor $7,$3,$5", regs{3: 0xff00ff00, 5: 0x0ff00ff0}, regs{7: 0x000f000f}},
		{"nor $7,$0,$0", nil, regs{7: top}},
		{"slt $7,$3,$5", regs{3: top, 5: 0}, regs{7: 1}}, {"slt $7,$3,$5", regs{3: 0, 5: top}, regs{7: 0}}, {"slt $7,$3,$5", regs{3: 4, 5: 4}, regs{7: 0}},
		{"slt $7,$3,$5", regs{3: least, 5: most}, regs{7: 1}}, {"slt $7,$3,$5", regs{3: 3, 5: 4}, regs{7: 1}},
		{"sltu $7,$3,$5", regs{3: top, 5: 0}, regs{7: 0}}, {"sltu $7,$3,$5", regs{3: 0, 5: top}, regs{7: 1}}, {"sltu $7,$3,$5", regs{3: 4, 5: 4}, regs{7: 0}},
		{"sltu $7,$3,$5", regs{3: least, 5: most}, regs{7: 0}},
		{"movz $7,$3,$5", regs{3: 9, 5: 0}, regs{7: 9}}, {"movz $7,$3,$5", regs{3: 9, 5: 1}, nil}, {"movz $7,$3,$5", regs{3: 9, 5: least}, nil},
		{"movn $7,$3,$5", regs{3: 9, 5: 0}, nil}, {"movn $7,$3,$5", regs{3: 9, 5: 1}, regs{7: 9}}, {"movn $7,$3,$5", regs{3: 9, 5: least}, regs{7: 9}},
		{"movz $7,$3,$0", regs{3: 9}, regs{7: 9}}, {"movn $7,$3,$3", regs{3: 0}, nil},
		{"addi $5,$3,-1", regs{3: least + 1}, regs{5: least}}, {"addi $5,$3,32767", regs{3: most - 32767}, regs{5: most}},
		{"addi $5,$3,-32768", regs{3: 0}, regs{5: 0xffff8000}}, {"addi $3,$3,0", regs{3: most}, regs{3: most}},
		{"addiu $5,$3,-1", regs{3: least}, regs{5: most}}, {"addiu $5,$3,1", regs{3: most}, regs{5: least}}, {"addiu $5,$3,-32768", regs{3: 32768}, regs{5: 0}},
		{"addiu $5,$0,32767", nil, regs{5: 32767}},
		{"slti $5,$3,-1", regs{3: 0xfffffffe}, regs{5: 1}}, {"slti $5,$3,-1", regs{3: top}, regs{5: 0}}, {"slti $5,$3,-1", regs{3: 0}, regs{5: 0}},
		{"slti $5,$3,5", regs{3: least}, regs{5: 1}},
		{"sltiu $5,$3,-1", regs{3: 0xfffffffe}, regs{5: 1}}, {"sltiu $5,$3,-1", regs{3: top}, regs{5: 0}}, {"sltiu $5,$3,-1", regs{3: 0}, regs{5: 1}},
		{"sltiu $5,$3,-32768", regs{3: 0xffff7fff}, regs{5: 1}}, {"sltiu $5,$3,5", regs{3: least}, regs{5: 0}}, {"sltiu $5,$3,0", regs{3: 0}, regs{5: 0}},
		{"andi $5,$3,65535", regs{3: 0x12348765}, regs{5: 0x8765}}, {"andi $5,$3,32768", regs{3: top}, regs{5: 0x8000}},
		{"ori $5,$3,65535", regs{3: 0x12340000}, regs{5: 0x1234ffff}}, {"ori $5,$0,32768", nil, regs{5: 0x8000}},
		{"xori $5,$3,65535", regs{3: 0x12348765}, regs{5: 0x1234789a}}, {"xori $5,$3,32768", regs{3: 0}, regs{5: 0x8000}},
		{"lui $5,0", regs{5: 7}, regs{5: 0}}, {"lui $5,1", nil, regs{5: 65536}}, {"lui $5,65535", nil, regs{5: 0xffff0000}}, {"lui $5,32768", nil, regs{5: least}},
		{"mul $7,$3,$5", regs{3: top, 5: 7}, regs{7: top - 6}}, {"mul $7,$3,$5", regs{3: 65536, 5: 65536}, regs{7: 0}}, {"mul $7,$3,$5", regs{3: least, 5: 3}, regs{7: least}},
		{"mul $3,$3,$3", regs{3: 65537}, regs{3: 131073}},
		{"clz $7,$3", regs{3: 0}, regs{7: 32}}, {"clz $7,$3", regs{3: 1}, regs{7: 31}}, {"clz $7,$3", regs{3: least}, regs{7: 0}}, {"clz $7,$3", regs{3: 0x00ffffff}, regs{7: 8}},
		{"clo $7,$3", regs{3: top}, regs{7: 32}}, {"clo $7,$3", regs{3: 0xfffffffe}, regs{7: 31}}, {"clo $7,$3", regs{3: most}, regs{7: 0}}, {"clo $7,$3", regs{3: 0xff7fffff}, regs{7: 8}},
		{"teq $3,$5", regs{3: 1, 5: 2}, nil}, {"tne $3,$5", regs{3: 2, 5: 2}, nil},
	})
}

// P13.3: sums and differences that just leave the numbers: nothing is written.
func TestLeavesNumbers(t *testing.T) {
	for _, x := range []struct {
		line string
		s, t uint32
	}{
		{"add $7,$3,$5", most, 1}, {"add $7,$3,$5", least, top}, {"add $7,$3,$5", 1 << 30, 1 << 30}, {"add $7,$3,$5", least, least}, {"add $3,$3,$5", most, most},
		{"sub $7,$3,$5", least, 1}, {"sub $7,$3,$5", most, top}, {"sub $7,$3,$5", 0, least}, {"sub $5,$3,$5", most, least},
		{"addi $7,$3,1", most, 0}, {"addi $7,$3,-1", least, 0}, {"addi $7,$3,32767", most - 32766, 0}, {"addi $7,$3,-32768", least + 32767, 0},
		{"addi $3,$3,1", most, 0}, {"add $0,$3,$5", most, 1}, {"sub $0,$3,$5", least, 1}, {"addi $0,$3,1", most, 0},
	} {
		b := laid(t, 0x200, x.line)
		c := loaded(regs{3: x.s, 5: x.t})
		leads(t, x.line, c, b, raised(c, 12, otherAt))
	}
}

// P13.3: products and quotients, by 0 and of the least number by -1, too; and the moves of both halves.
func TestHalves(t *testing.T) {
	for _, x := range []struct {
		line         string
		s, t, hi, lo uint32
	}{
		{"mult $3,$5", 6, 7, 0, 42}, {"mult $3,$5", top, 2, top, top - 1}, {"mult $3,$5", least, least, 1 << 30, 0}, {"mult $3,$5", least, top, 0, least}, {"mult $3,$5", most, most, 0x3fffffff, 1},
		{"multu $3,$5", 6, 7, 0, 42}, {"multu $3,$5", top, 2, 1, top - 1}, {"multu $3,$5", top, top, top - 1, 1}, {"multu $3,$5", least, least, 1 << 30, 0}, {"multu $3,$5", 0, top, 0, 0},
		{"div $3,$5", 7, 2, 1, 3}, {"div $3,$5", 7, top - 1, 1, top - 2}, {"div $3,$5", top - 6, 2, top, top - 2}, {"div $3,$5", top - 6, top - 1, top, 3},
		{"div $3,$5", least, top, 0, least}, {"div $3,$5", 5, least, 5, 0}, {"div $3,$5", 7, 0, 0x11112222, 0x33334444}, {"div $3,$5", 0, 0, 0x11112222, 0x33334444},
		{"divu $3,$5", 7, 2, 1, 3}, {"divu $3,$5", top, 2, 1, most}, {"divu $3,$5", least, top, least, 0}, {"divu $3,$5", top, top, 0, 1}, {"divu $3,$5", 7, 0, 0x11112222, 0x33334444},
		{"mthi $3", 9, 0, 9, 0x33334444}, {"mtlo $3", 9, 0, 0x11112222, 9}, {"mthi $0", 9, 0, 0, 0x33334444}, {"mtlo $0", 9, 0, 0x11112222, 0},
	} {
		b := laid(t, 0x200, x.line)
		c := loaded(regs{3: x.s, 5: x.t})
		want := gone(c)
		want.Hi, want.Lo = x.hi, x.lo
		leads(t, x, c, b, want)
	}
	holdLines(t, []lineOf{{"mfhi $7", nil, regs{7: 0x11112222}}, {"mflo $7", nil, regs{7: 0x33334444}}})
}

// P13.3: what would be written to register 0 is lost, of each kind of instruction; all else that they do is done.
func TestRegisterZero(t *testing.T) {
	for _, line := range []string{
		"sll $0,$5,1", "srl $0,$5,1", "sra $0,$5,1", "sllv $0,$5,$3", "srlv $0,$5,$3", "srav $0,$5,$3", "movz $0,$5,$0", "movn $0,$5,$3",
		"mfhi $0", "mflo $0", "add $0,$5,$3", "addu $0,$5,$3", "sub $0,$5,$3", "subu $0,$5,$3", "and $0,$5,$5", "or $0,$5,$3", "xor $0,$5,$3", "nor $0,$0,$0",
		"slt $0,$0,$5", "sltu $0,$0,$5", "mul $0,$5,$3", "clz $0,$3", "clo $0,$4", "addi $0,$5,1", "addiu $0,$5,1", "slti $0,$0,1", "sltiu $0,$0,1",
		"andi $0,$5,65535", "ori $0,$5,1", "xori $0,$5,1", "lui $0,1", "mfc0 $0,$9", "mfc0 $0,$12",
		"lb $0,512($8)", "lbu $0,512($8)", "lh $0,512($8)", "lhu $0,512($8)", "lw $0,512($8)", "sc $0,512($8)",
	} {
		holdLines(t, []lineOf{{line, regs{3: 2, 4: top, 5: 5, 8: least}, nil}})
	}
	b := laid(t, 0x200, "jalr $0,$8\nll $0,0($8)\nsc $0,4($8)\nlw $0,0($9)\nlw $0,0($9)")
	b.Feed(api.Event{Kind: api.EventByte, V: 65})
	b.Feed(api.Event{Kind: api.EventByte, V: 66})
	c := loaded(regs{8: least, 9: 0x9f000100})
	Step(&c, b)
	c.Next = c.PC + 4
	Step(&c, b)
	if !c.Link || c.R[0] != 0 {
		t.Errorf("ll: %+v", c)
	}
	Step(&c, b)
	if v, _ := b.Peek(4); c.Link || c.R[0] != 0 || v != 0 {
		t.Errorf("sc: %+v", c)
	}
	Step(&c, b)
	if v, _ := b.Load(api.DevUart+4, 4); v != 1 || c.R[0] != 0 {
		t.Errorf("lw of a device: %d, %+v", v, c)
	}
}

// P13.3: $0 is read as 0, and is 0 behind each step, also of a state in which it was not.
func TestRegisterZeroRead(t *testing.T) {
	for _, line := range []string{"addu $7,$0,$0", "or $7,$0,$0", "sll $7,$0,4", "sltu $7,$0,$0"} {
		b := laid(t, 0x200, line)
		c := Reset()
		c.R[0], c.R[7] = 5, 9
		want := gone(Reset())
		leads(t, line, c, b, want)
	}
	b := laid(t, 0x200, "syscall")
	c := Reset()
	c.R[0] = 5
	leads(t, "syscall", c, b, raised(Reset(), 8, otherAt))
	c.C.Status, c.C.Cause = 0x101, 0x100
	Step(&c, b)
	if c.R[0] != 0 {
		t.Error("an interrupt left register 0")
	}
}

// P13.3: each branch, taken and not.
func TestBranches(t *testing.T) {
	for _, x := range []struct {
		line  string
		s, t  uint32
		taken bool
		links bool
	}{
		{"beq $3,$5,100", 4, 4, true, false}, {"beq $3,$5,100", 4, 5, false, false}, {"beq $3,$5,100", 0, least, false, false},
		{"bne $3,$5,100", 4, 4, false, false}, {"bne $3,$5,100", 4, 5, true, false}, {"bne $3,$5,100", 0, least, true, false},
		{"blez $3,100", 0, 0, true, false}, {"blez $3,100", 1, 0, false, false}, {"blez $3,100", top, 0, true, false}, {"blez $3,100", least, 0, true, false}, {"blez $3,100", most, 0, false, false},
		{"bgtz $3,100", 0, 0, false, false}, {"bgtz $3,100", 1, 0, true, false}, {"bgtz $3,100", top, 0, false, false}, {"bgtz $3,100", least, 0, false, false}, {"bgtz $3,100", most, 0, true, false},
		{"bltz $3,100", 0, 0, false, false}, {"bltz $3,100", 1, 0, false, false}, {"bltz $3,100", top, 0, true, false}, {"bltz $3,100", least, 0, true, false}, {"bltz $3,100", most, 0, false, false},
		{"bgez $3,100", 0, 0, true, false}, {"bgez $3,100", 1, 0, true, false}, {"bgez $3,100", top, 0, false, false}, {"bgez $3,100", least, 0, false, false}, {"bgez $3,100", most, 0, true, false},
		{"bltzal $3,100", 0, 0, false, true}, {"bltzal $3,100", top, 0, true, true}, {"bltzal $3,100", least, 0, true, true}, {"bltzal $3,100", most, 0, false, true},
		{"bgezal $3,100", 0, 0, true, true}, {"bgezal $3,100", top, 0, false, true}, {"bgezal $3,100", least, 0, false, true}, {"bgezal $3,100", most, 0, true, true},
	} {
		b := laid(t, 0x200, x.line)
		c := loaded(regs{3: x.s, 5: x.t})
		want := gone(c)
		want.Delay = true
		if x.taken {
			want.Next = 0x80000204 + 400
		}
		if x.links {
			want.R[31] = 0x80000208
		}
		leads(t, x, c, b, want)
	}
}

// P13.3: targets: with a sign, from the branch's own place on, wherever Next is; a jump's with the highest bits of the place behind it.
func TestTargets(t *testing.T) {
	for _, x := range []struct {
		pc     uint32
		line   string
		target uint32
	}{
		{0x80000200, "beq $0,$0,0", 0x80000204}, {0x80000200, "beq $0,$0,-1", 0x80000200}, {0x80000200, "beq $0,$0,32767", 0x80020200},
		{0x80000200, "beq $0,$0,-32768", 0x7ffe0204}, {0x80000200, "bgez $0,-129", 0x80000000}, {0xa0000200, "bgez $0,1", 0xa0000208},
		{0x00000500, "bne $0,$8,-32768", 0xfffe0504}, {0xfffffff0, "blez $0,3", 0}, {0xfffffff0, "blez $0,32767", 0x0001fff0},
		{0xfffffffc, "beq $0,$0,0", 0}, {0xfffffffc, "beq $0,$0,-1", 0xfffffffc},
		{0x80000200, "j 0", 0x80000000}, {0x80000200, "j 67108863", 0x8ffffffc}, {0x00000500, "j 67108863", 0x0ffffffc},
		{0x0ffffffc, "j 1", 0x10000004}, {0x0ffffff8, "j 1", 4}, {0xfffffffc, "j 128", 0x200}, {0xfffffff8, "j 128", 0xf0000200}, {0x7ffffffc, "j 128", 0x80000200},
		{0x80000200, "jr $8", 0x12345677}, {0x80000200, "jr $0", 0}, {0x80000200, "jalr $7,$8", 0x12345677}, {0xfffffff8, "jal 5", 0xf0000014},
	} {
		for _, next := range []uint32{x.pc + 4, 0x80000300} {
			b := laid(t, x.pc&0xff|0x200, x.line)
			c := loaded(regs{8: 0x12345677})
			c.PC, c.Next = x.pc, next
			c.T[3] = api.Entry{Hi: x.pc &^ 255, Lo: 0x202}
			want := gone(c)
			want.Next, want.Delay = x.target, true
			switch {
			case x.line[:3] == "jal" && x.line[3] == 'r':
				want.R[7] = x.pc + 8
			case x.line[:3] == "jal":
				want.R[31] = x.pc + 8
			}
			leads(t, x, c, b, want)
		}
	}
}

// P13.3: the register that is asked, or jumped to, is taken ahead of the link that goes to the same one.
func TestLinks(t *testing.T) {
	for _, x := range []struct {
		line  string
		ahead uint32
		reg   int
		next  uint32
	}{
		{"bltzal $31,100", top, 31, 0x80000394}, {"bltzal $31,100", 0, 31, 0x80000208}, {"bltzal $31,100", 5, 31, 0x80000208},
		{"bgezal $31,100", top, 31, 0x80000208}, {"bgezal $31,100", 0, 31, 0x80000394}, {"bgezal $31,100", 5, 31, 0x80000394},
		{"jalr $31,$31", 0x80000300, 31, 0x80000300}, {"jalr $9,$9", 0x1234, 9, 0x1234}, {"jal 128", 5, 31, 0x80000200},
	} {
		b := laid(t, 0x200, x.line)
		c := loaded(regs{x.reg: x.ahead})
		want := gone(c)
		want.Delay, want.Next, want.R[x.reg] = true, x.next, 0x80000208
		leads(t, x, c, b, want)
	}
	b := laid(t, 0x200, "jalr $0,$9")
	c := loaded(regs{9: 0x80000300})
	want := gone(c)
	want.Delay, want.Next = true, 0x80000300
	leads(t, "jalr to register 0", c, b, want)
}

// P13.2, P13.3: what stands behind a branch is done, then what stands at its target; of one that is not taken what stands behind both.
func TestDelaySlots(t *testing.T) {
	b := laid(t, 0x200, "beq $0,$0,2\naddiu $1,$1,1\naddiu $2,$2,1\nbne $0,$0,2\naddiu $3,$3,1\naddiu $4,$4,1\njal 144\naddiu $5,$5,1\naddiu $6,$6,1")
	lay(t, b, 0x240, "jr $31\naddiu $7,$7,1")
	c := Reset()
	places := []uint32{}
	for range 10 {
		places = append(places, c.PC&0xfff)
		Step(&c, b)
	}
	for n, want := range []uint32{0x200, 0x204, 0x20c, 0x210, 0x214, 0x218, 0x21c, 0x240, 0x244, 0x220} {
		if places[n] != want {
			t.Errorf("step %d: %#x, wanted %#x", n, places[n], want)
		}
	}
	for n, want := range []uint32{0, 1, 0, 1, 1, 1, 1, 1} {
		if c.R[n] != want {
			t.Errorf("$%d: %d", n, c.R[n])
		}
	}
}

// P13.2, P13.3: a branch in a delay slot: first what the first one leads to, then what its own target is.
func TestBranchInDelay(t *testing.T) {
	for _, x := range []struct {
		second string
		target uint32
	}{{"beq $0,$0,30", 0x80000280}, {"bne $0,$0,30", 0x80000304}, {"j 160", 0x80000280}, {"jr $8", 0x80000280}, {"bgezal $0,30", 0x80000280}} {
		b := laid(t, 0x200, "j 192\n"+x.second)
		lay(t, b, 0x280, "addiu $2,$2,1")
		lay(t, b, 0x300, "addiu $1,$1,1\naddiu $3,$3,1")
		c := Reset()
		c.R[8] = 0x80000280
		Step(&c, b)
		want := gone(c)
		want.PC, want.Next, want.Delay = 0x80000300, x.target, true
		if x.second[:3] == "bge" {
			want.R[31] = 0x8000020c
		}
		leads(t, x.second, c, b, want)
		Step(&c, b)
		Step(&c, b)
		if c.PC != x.target || c.R[1] != 1 || c.Delay {
			t.Errorf("%s: %+v", x.second, c)
		}
	}
}

// P13.3: loads of each size, of memory, with a sign and without.
func TestLoads(t *testing.T) {
	for _, x := range []struct {
		line string
		v    uint32
	}{
		{"lb $5,0($8)", 0xffffff81}, {"lb $5,1($8)", 0x72}, {"lbu $5,0($8)", 0x81}, {"lbu $5,3($8)", 0xff}, {"lb $5,3($8)", top},
		{"lh $5,0($8)", 0xffff8172}, {"lh $5,4($8)", 0x7fff}, {"lhu $5,0($8)", 0x8172}, {"lhu $5,2($8)", 0x80ff}, {"lh $5,6($8)", 0xffff8000},
		{"lw $5,0($8)", 0x817280ff}, {"lw $5,4($8)", 0x7fff8000}, {"lw $5,-4($8)", 0x01020304}, {"lbu $5,-1($8)", 4}, {"lhu $5,-2($8)", 0x0304}, {"lw $8,0($8)", 0x817280ff},
	} {
		for _, base := range []uint32{0x80000000, 0xa0000000, 0x00012000} {
			b := laid(t, 0x200, x.line)
			b.Store(0x33c, 4, 0x01020304)
			b.Store(0x340, 4, 0x817280ff)
			b.Store(0x344, 4, 0x7fff8000)
			c := loaded(regs{8: base + 0x340})
			c.T[4] = api.Entry{Hi: 0x00012300, Lo: 0x302}
			want := gone(c)
			want.R[5] = x.v
			if x.line[3:5] == "$8" {
				want.R[5], want.R[8] = c.R[5], x.v
			}
			leads(t, x, c, b, want)
		}
	}
}

// P13.3: stores of each size: those bytes are the register's lowest, no others are others.
func TestStores(t *testing.T) {
	for _, x := range []struct {
		line string
		at   uint32
		size int
		v    uint32
	}{
		{"sb $5,0($8)", 0x340, 1, 0xdd}, {"sb $5,3($8)", 0x343, 1, 0xdd}, {"sb $5,-1($8)", 0x33f, 1, 0xdd}, {"sh $5,0($8)", 0x340, 2, 0xccdd}, {"sh $5,-2($8)", 0x33e, 2, 0xccdd},
		{"sw $5,0($8)", 0x340, 4, 0xaabbccdd}, {"sw $5,-4($8)", 0x33c, 4, 0xaabbccdd}, {"sw $0,4($8)", 0x344, 4, 0}, {"sb $0,1($8)", 0x341, 1, 0}, {"sw $8,0($8)", 0x340, 4, 0},
	} {
		for _, base := range []uint32{0x80000000, 0xa0000000, 0x00012000} {
			b := laid(t, 0x200, x.line)
			for at := uint32(0x330); at < 0x360; at += 4 {
				b.Store(at, 4, top)
			}
			b.Memory().Clean()
			clone := b.Clone()
			c := loaded(regs{5: 0xaabbccdd, 8: base + 0x340})
			c.T[4] = api.Entry{Hi: 0x00012300, Lo: 0x306}
			v := x.v
			if x.line[3:5] == "$8" {
				v = c.R[8]
			}
			clone.Store(x.at, x.size, v)
			leads(t, x, c, b, gone(c))
			sameBus(t, b, clone)
		}
	}
}

// P13.3: loads and stores of devices: each load of the uart takes a byte, of the rng a word; a part of a register is none.
func TestDevices(t *testing.T) {
	b := laid(t, 0x200, "lw $1,0($8)\nlw $2,4($8)\nsw $9,0($8)\nlw $3,0($10)\nsw $9,0($10)\nlw $4,0($10)\nsw $9,0($11)\nlw $5,0($11)\nlw $6,0($12)\nll $7,0($8)")
	b.Feed(api.Event{Kind: api.EventByte, V: 'x'})
	b.Feed(api.Event{Kind: api.EventByte, V: 'y'})
	model := b.Clone()
	c := loaded(regs{8: 0x9f000100, 9: 0x141, 10: 0xbf000300, 11: 0x9f000000, 12: 0x9f000200})
	for range 10 {
		Step(&c, b)
		model.Tick()
	}
	if c.R[1] != 'x' || c.R[2] != 1 || c.R[5] != 0x141 || c.R[6] != 0 || c.R[7] != 'y' || !c.Link || c.C.Status != 0 {
		t.Errorf("%+v", c)
	}
	first, _ := model.Load(api.DevRng, 4)
	model.Store(api.DevRng, 4, 0x141)
	second, _ := model.Load(api.DevRng, 4)
	if c.R[3] != first || c.R[4] != second {
		t.Errorf("%d, %d; wanted %d, %d", c.R[3], c.R[4], first, second)
	}
	for _, line := range []string{"lb $1,0($8)", "lbu $1,3($8)", "lh $1,0($8)", "lhu $1,2($8)", "sb $1,0($8)", "sh $1,2($8)", "lw $1,12($8)", "sw $1,12($8)", "ll $1,252($8)", "lw $1,4($10)", "sw $1,256($10)"} {
		b := laid(t, 0x200, line)
		b.Feed(api.Event{Kind: api.EventByte, V: 'x'})
		was := b.Devices()
		c := loaded(regs{8: 0x9f000100, 10: 0xbf000300})
		leads(t, line, c, b, raised(c, 7, otherAt))
		if b.Devices() != was {
			t.Errorf("%s changed the devices", line)
		}
	}
}

// P13.3: addresses that may not be, for each kind of load and store, the first of several that apply.
func TestWrongAddresses(t *testing.T) {
	for _, x := range []struct {
		addr  uint32
		user  bool
		codes [2]int // of a load (below 0: it may be), of a store
		to    uint32
		page  bool
		sizes string
	}{
		{0x80000301, false, [2]int{4, 5}, otherAt, false, "hw"}, {0x80000302, false, [2]int{4, 5}, otherAt, false, "w"}, {0x80000303, true, [2]int{4, 5}, otherAt, false, "bhw"},
		{0x00000601, false, [2]int{4, 5}, otherAt, false, "hw"}, {0x00000602, true, [2]int{4, 5}, otherAt, false, "w"}, {top, false, [2]int{4, 5}, otherAt, false, "hw"},
		{1 << 31, true, [2]int{4, 5}, otherAt, false, "bhw"}, {0xbffffffc, true, [2]int{4, 5}, otherAt, false, "bhw"}, {0xc0000000, true, [2]int{4, 5}, otherAt, false, "bhw"}, {top - 3, true, [2]int{4, 5}, otherAt, false, "bhw"},
		{0xc0000000, false, [2]int{2, 3}, refillAt, true, "bhw"}, {top - 3, false, [2]int{2, 3}, refillAt, true, "bhw"}, {top, false, [2]int{2, 3}, refillAt, true, "b"},
		{0x00000600, false, [2]int{2, 3}, refillAt, true, "bhw"}, {0x00000600, true, [2]int{2, 3}, refillAt, true, "bhw"}, {0x7ffffffc, true, [2]int{2, 3}, refillAt, true, "bhw"}, {1<<31 - 1, false, [2]int{2, 3}, refillAt, true, "b"},
		{0x00000704, false, [2]int{2, 3}, otherAt, true, "bhw"}, {0x00000704, true, [2]int{2, 3}, otherAt, true, "bhw"},
		{0x00000804, false, [2]int{-1, 1}, otherAt, true, "bhw"}, {0x00000804, true, [2]int{-1, 1}, otherAt, true, "bhw"},
	} {
		for name, size := range map[string]byte{"lb": 'b', "lbu": 'b', "lh": 'h', "lhu": 'h', "lw": 'w', "ll": 'w', "sb": 'b', "sh": 'h', "sw": 'w', "sc": 'w'} {
			code := x.codes[0]
			if name[0] == 's' {
				code = x.codes[1]
			}
			if code < 0 || strings.IndexByte(x.sizes, size) < 0 {
				continue
			}
			for _, link := range []bool{false, true} {
				for _, imm := range []uint32{0, 4, 0xffff8000} {
					b := laid(t, 0x200, name+" $5,"+strconv.Itoa(int(int32(imm)))+"($8)")
					c := loaded(regs{8: x.addr - imm})
					goTo(&c, 0x500)
					c.T[0] = api.Entry{Hi: 0x533, Lo: 0x202}
					c.T[1] = api.Entry{Hi: 0x733, Lo: 0x304}
					c.T[2] = api.Entry{Hi: 0x833, Lo: 0x302}
					c.Link, c.C.EntryHi = link, 0x44444433
					if x.user {
						c.C.Status = 16
					}
					was := b.Memory().Image()
					leads(t, name, c, b, bad(raised(c, code, x.to), x.addr, x.page))
					if b.Memory().Image() != was {
						t.Errorf("%s at %#x changed memory", name, x.addr)
					}
				}
			}
		}
	}
}

// P13.3: the last bytes of memory, and the first behind it.
func TestMemoryEnd(t *testing.T) {
	b, _ := bus.New(4)
	for _, x := range []struct {
		line string
		addr uint32
		ok   bool
	}{
		{"lw $5,0($8)", 1020, true}, {"lw $5,0($8)", 1024, false}, {"lh $5,0($8)", 1022, true}, {"lhu $5,0($8)", 1024, false}, {"lb $5,0($8)", 1023, true}, {"lbu $5,0($8)", 1024, false}, {"ll $5,0($8)", 1024, false},
		{"sw $5,0($8)", 1020, true}, {"sw $5,0($8)", 1024, false}, {"sh $5,0($8)", 1022, true}, {"sh $5,0($8)", 1024, false}, {"sb $5,0($8)", 1023, true}, {"sb $5,0($8)", 1024, false},
		{"lw $5,0($8)", 0x1ffffffc, false}, {"sw $5,0($8)", 0x1ffffffc, false},
	} {
		lay(t, b, 0x200, x.line)
		c := loaded(regs{5: 0, 8: 0x80000000 + x.addr})
		want := gone(c)
		if !x.ok {
			want = raised(c, 7, otherAt)
		}
		leads(t, x, c, b, want)
	}
}

// P13.3: an address that wraps round.
func TestAddressWraps(t *testing.T) {
	b := laid(t, 0x200, "lw $5,32767($8)\nsw $6,-4($0)\nlbu $5,-1($9)")
	b.Store(0x304, 4, 0x12345678)
	c := loaded(regs{8: top - 32766 + 4, 9: 0})
	c.T[0] = api.Entry{Hi: 0, Lo: 0x306}
	c.T[1] = api.Entry{Hi: 0xffffff00, Lo: 0x406}
	for range 3 {
		Step(&c, b)
	}
	if v, _ := b.Peek(0x4fc); v != c.R[6] || c.R[5] != c.R[6]&255 || c.C.Status != 0 {
		t.Errorf("%#x, %+v", v, c)
	}
	c = loaded(regs{8: top - 32766 + 4})
	c.T[0] = api.Entry{Hi: 0, Lo: 0x306}
	want := gone(c)
	want.R[5] = 0x12345678
	leads(t, "wrap", c, b, want)
}

// P13.3: sc stores just behind an ll; between them nothing but eret takes the link away.
func TestLinked(t *testing.T) {
	for _, x := range []struct {
		lines string
		link  bool
	}{
		{"ll $4,0($8)", true}, {"addiu $0,$0,0", false}, {"ll $4,0($8)\nsw $4,0($8)\nlw $4,0($8)", true}, {"ll $4,0($8)\nsc $4,8($8)", false}, {"ll $4,0($8)\nll $4,4($8)", true}, {"lw $4,0($8)", false},
	} {
		b := laid(t, 0x200, x.lines)
		c := loaded(regs{8: 0x80000300})
		for range strings.Count(x.lines, "\n") + 1 {
			Step(&c, b)
		}
		if c.Link != x.link {
			t.Fatalf("%s: %+v", x.lines, c)
		}
		b.Store(0x304, 4, 7)
		b.Store(0x280, 4, 0xe1050004) // sc $5,4($8)
		goTo(&c, 0x80000280)
		want := gone(c)
		want.Link, want.R[5] = false, 0
		stored := uint32(7)
		if x.link {
			want.R[5], stored = 1, c.R[5]
		}
		leads(t, x.lines, c, b, want)
		if v, _ := b.Peek(0x304); v != stored {
			t.Errorf("%s: %#x", x.lines, v)
		}
	}
}

// P13.3: sc of an address that the bus does not have: without a link it is not asked; with one the link stays, and the register, too.
func TestLinkedNowhere(t *testing.T) {
	for _, addr := range []uint32{0x80000800, 0x9f000004, 0x9f00000c, 0xbffffffc} {
		for _, link := range []bool{false, true} {
			b := laid(t, 0x200, "sc $5,0($8)")
			was := b.Devices()
			c := loaded(regs{8: addr})
			c.Link = link
			want := gone(c)
			want.R[5] = 0
			if link && addr != 0x9f000004 {
				want = raised(c, 7, otherAt)
			} else if link {
				want.R[5], want.Link = 1, false
			}
			leads(t, addr, c, b, want)
			if (b.Devices() != was) != (link && addr == 0x9f000004) {
				t.Errorf("%#x, %v: the devices", addr, link)
			}
		}
	}
}

// P13.3: an ll that fails links nothing; no exception and no interrupt takes a link away.
func TestLinkStays(t *testing.T) {
	for _, line := range []string{"ll $5,1($8)", "ll $5,0($9)", "ll $5,0($0)", "syscall", "add $5,$10,$10"} {
		for _, link := range []bool{false, true} {
			b := laid(t, 0x200, line)
			c := loaded(regs{8: 0x80000300, 9: 0x80000800, 10: most})
			c.Link, c.C.EntryHi = link, 9
			Step(&c, b)
			if c.Link != link || c.C.Status != 2 || c.R[5] != 0x05050505 {
				t.Errorf("%s: %+v", line, c)
			}
		}
	}
	b := laid(t, 0x200, "addiu $1,$1,1")
	c := Reset()
	c.Link, c.C.Status, c.C.Cause = true, 0x101, 0x100
	leads(t, "an interrupt", c, b, raised(c, 0, otherAt))
}

// P13.3: those that raise an exception by themselves; nothing is written.
func TestTraps(t *testing.T) {
	for _, x := range []struct {
		line string
		code int
		s, t uint32
	}{
		{"syscall", 8, 0, 0}, {"break", 9, 0, 0}, {"teq $3,$5", 13, 4, 4}, {"teq $3,$5", 13, top, top}, {"teq $3,$3", 13, 1, 2}, {"tne $3,$5", 13, 4, 5}, {"tne $3,$5", 13, 0, least},
	} {
		for _, delay := range []bool{false, true} {
			b := laid(t, 0x200, x.line)
			c := loaded(regs{3: x.s, 5: x.t})
			c.Next, c.Delay, c.C.BadVAddr, c.C.EntryHi = 0x80000300, delay, 5, 6
			leads(t, x, c, b, raised(c, x.code, otherAt))
		}
	}
}

// P13.3: each register of the system is read and written, in the bits that may be; of numbers that are none 0 is read.
func TestSystemRegisters(t *testing.T) {
	for n := range 32 {
		b := laid(t, 0x200, "mfc0 $5,$"+strconv.Itoa(n))
		c := loaded(nil)
		c.C = api.Cp0{Index: 0x101, EntryLo: 0x102, BadVAddr: 0x103, Count: 0x104, EntryHi: 0x105, Compare: 0x106, Status: 0x108, Cause: 0x200, EPC: 0x109}
		want := gone(c)
		want.R[5] = map[int]uint32{0: 0x101, 2: 0x102, 8: 0x103, 9: 0x105, 10: 0x105, 11: 0x106, 12: 0x108, 13: 0x200, 14: 0x109}[n]
		leads(t, n, c, b, want)
	}
	for n := range 32 {
		for _, v := range []uint32{0, top, 0x89abcdef} {
			b := laid(t, 0x200, "mtc0 $5,$"+strconv.Itoa(n))
			c := loaded(regs{5: v})
			c.C = api.Cp0{Index: 0x80000005, EntryLo: 0x12345606, BadVAddr: 7, Count: 8, EntryHi: 0x12345678, Compare: 9, Status: 0xff00, Cause: 0x8234, EPC: 10}
			want := gone(c)
			switch n {
			case 0:
				want.C.Index = 0x80000000 | v&7
			case 2:
				want.C.EntryLo = v & 0xffffff07
			case 9:
				want.C.Count = v
			case 10:
				want.C.EntryHi = v
			case 11:
				want.C.Compare = v
			case 12:
				want.C.Status = v & 0xff13
			case 13:
				want.C.Cause = 0x8034 | v&0x300
			case 14:
				want.C.EPC = v
			}
			// Compare is reached with this step, ahead of the write of it.
			want.C.Cause |= 0x8000
			if n == 11 {
				want.C.Cause &^= 0x8000
			}
			leads(t, n, c, b, want)
		}
	}
}

// P13.3: the buffer read and written, at the slot of Index's lowest three bits, whatever stands above them.
func TestBufferSlots(t *testing.T) {
	for n := range uint32(8) {
		for _, above := range []uint32{0, 8, 1 << 31, top &^ 7} {
			c := loaded(nil)
			for slot := range c.T {
				c.T[slot] = api.Entry{Hi: 0x1000 * uint32(slot), Lo: 0x2000*uint32(slot) + uint32(slot) + 0xf8}
			}
			c.C.Index, c.C.EntryHi, c.C.EntryLo = above|n, 0x12345678, 0xabcdef05
			want := gone(c)
			want.C.EntryHi, want.C.EntryLo = 0x1000*n, 0x2000*n+n+0xf8
			leads(t, "tlbr", c, laid(t, 0x200, "tlbr"), want)
			want = gone(c)
			want.T[n] = api.Entry{Hi: 0x12345678, Lo: 0xabcdef05}
			leads(t, "tlbwi", c, laid(t, 0x200, "tlbwi"), want)
			c.C.EntryLo = top
			want = gone(c)
			want.T[n] = api.Entry{Hi: 0x12345678, Lo: 0xffffff07}
			leads(t, "tlbwi", c, laid(t, 0x200, "tlbwi"), want)
		}
	}
}

// P13.3: tlbp finds the least slot of EntryHi's page in EntryHi's space; if there is none Index keeps all but its highest bit.
func TestBufferProbe(t *testing.T) {
	b := laid(t, 0x200, "tlbp")
	for _, x := range []struct {
		hi    uint32
		index uint32
		then  uint32
	}{
		{0x00000507, 0, 3}, {0x00000507, 0x80000001, 3}, {0x00000508, 2, 0x80000002}, {0x00000508, 0x80000002, 0x80000002}, {0x00000600, 5, 4}, {0x000006ff, 0x8000000f, 4},
		{0x00000707, 0, 6}, {0x00000709, 0x80000007, 7}, {0, 0x80000000, 0}, {1, 6, 0x80000006}, {0x00000587, 1, 0x80000001}, {0xc0000007, 0x7ffffff8, 0xfffffff8},
	} {
		c := loaded(nil)
		c.T[3] = api.Entry{Hi: 0x00000507, Lo: 0}
		c.T[4] = api.Entry{Hi: 0x00000611, Lo: 1}
		c.T[5] = api.Entry{Hi: 0x00000507, Lo: 6}
		c.T[6] = api.Entry{Hi: 0x00000707, Lo: 6}
		c.T[7] = api.Entry{Hi: 0x00000709, Lo: 6}
		c.C.EntryHi, c.C.Index = x.hi, x.index
		want := gone(c)
		want.C.Index = x.then
		leads(t, x, c, b, want)
	}
}

// P13.3: eret goes on at EPC, in no delay slot and without a link, whatever Next is; EXL is 0 then, all else of Status stays.
func TestEret(t *testing.T) {
	for _, epc := range []uint32{0, 1, 0x80000300, 0x12345678, top - 3, top} {
		for _, status := range []uint32{0, 2, 3, 0x12, 0xff13 &^ 1, 0xff12} {
			for _, delay := range []bool{false, true} {
				b := laid(t, 0x200, "eret")
				c := loaded(nil)
				c.Next, c.Delay, c.Link = 0x80000700, delay, delay
				c.C.EPC, c.C.Status, c.C.Cause = epc, status, 0x80000024
				want := c
				want.PC, want.Next, want.Delay, want.Link = epc, epc+4, false, false
				want.C.Status, want.C.Count = status&^2, 1
				leads(t, epc, c, b, want)
			}
		}
	}
}

// P13.3: behind an exception of a user's program the system's handler goes back to it.
func TestThereAndBack(t *testing.T) {
	b := laid(t, 0x300, "addiu $1,$1,1\nsyscall\naddiu $2,$2,1\nmfc0 $3,$12")
	lay(t, b, 0x180, "mfc0 $26,$14\naddiu $26,$26,4\nmtc0 $26,$14\naddiu $27,$27,1\neret")
	c := Reset()
	goTo(&c, 0x500)
	c.T[0], c.C.Status = api.Entry{Hi: 0x500, Lo: 0x302}, 0x10
	for range 14 {
		Step(&c, b)
	}
	if c.R[1] != 1 || c.R[2] != 1 || c.R[27] != 2 || c.R[3] != 0 || c.PC != 0x510 || c.C.Status != 0x10 {
		t.Errorf("%+v", c)
	}
}
