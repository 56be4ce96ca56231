package engine

import (
	"fmt"
	"slices"
	"testing"

	"zoetrope/api"
	"zoetrope/bus"
	"zoetrope/cpu"
	"zoetrope/ir"
	"zoetrope/opt"
)

// plainLines are all plain instructions.
var plainLines = []string{
	"sll $1,$2,3", "srl $1,$2,3", "sra $1,$2,3", "sllv $1,$2,$3", "srlv $1,$2,$3", "srav $1,$2,$3", "addu $1,$2,$3", "subu $1,$2,$3", "and $1,$2,$3", "or $1,$2,$3", "xor $1,$2,$3", "nor $1,$2,$3",
	"slt $1,$2,$3", "sltu $1,$2,$3", "addiu $1,$2,3", "slti $1,$2,3", "sltiu $1,$2,3", "andi $1,$2,3", "ori $1,$2,3", "xori $1,$2,3", "lui $1,3",
}

// otherLines are all other ones.
var otherLines = []string{
	"jr $1", "jalr $1,$2", "movz $1,$2,$3", "movn $1,$2,$3", "syscall", "break", "mfhi $1", "mthi $1", "mflo $1", "mtlo $1", "mult $1,$2", "multu $1,$2", "div $1,$2", "divu $1,$2", "add $1,$2,$3", "sub $1,$2,$3",
	"teq $1,$2", "tne $1,$2", "mul $1,$2,$3", "clz $1,$2", "clo $1,$2", "bltz $1,3", "bgez $1,3", "bltzal $1,3", "bgezal $1,3", "j 3", "jal 3", "beq $1,$2,3", "bne $1,$2,3", "blez $1,3", "bgtz $1,3", "addi $1,$2,3",
	"mfc0 $1,$9", "mtc0 $1,$9", "tlbr", "tlbwi", "tlbp", "eret", "lb $1,3($2)", "lh $1,3($2)", "lw $1,3($2)", "lbu $1,3($2)", "lhu $1,3($2)", "sb $1,3($2)", "sh $1,3($2)", "sw $1,3($2)", "ll $1,3($2)", "sc $1,3($2)",
}

// P17.3: the chapter's example.
func TestBlocksExample(t *testing.T) {
	for _, f := range allFlags() {
		m := made(t, 8, f, many(16, "addiu $1,$1,1")...)
		run(t, m, 16)
		holdBlocks(t, "first", m, 1, 16)
		m.Set(cpu.Reset())
		run(t, m, 16)
		holdBlocks(t, "again", m, 1, 32)
		m.Set(cpu.Reset())
		m.Bus().Store(0x23c, 4, 0x24210009)
		run(t, m, 16)
		holdBlocks(t, "behind a store", m, 2, 48)
		if m.Cpu().R[1] != 24 {
			t.Error(m.Cpu().R[1])
		}
	}
}

// P17.3: which instructions are plain: these are made in a block, all others are not.
func TestPlain(t *testing.T) {
	if len(plainLines)+len(otherLines) != api.Ops {
		t.Fatal(len(plainLines), len(otherLines))
	}
	for _, line := range plainLines {
		m := made(t, 1, api.Flags{}, line)
		run(t, m, 1)
		holdBlocks(t, line, m, 1, 1)
	}
	for _, line := range otherLines {
		m := made(t, 1, api.Flags{}, line)
		run(t, m, 1)
		holdBlocks(t, line, m, 0, 0)
	}
	for _, w := range []uint32{0xffffffff, 1, 0x00200000, 0x3c200000, 0x00000044, 0xfc000000} {
		m := newMachine(t, 8, 1, api.Flags{})
		lay(t, m.Bus(), 0x200, []uint32{w})
		run(t, m, 1)
		holdBlocks(t, w, m, 0, 0)
	}
}

// P17.3: so many plain instructions stand in a row: at most sixteen are one block.
func TestBlockLengths(t *testing.T) {
	for n := range 50 {
		m := made(t, 64, api.Flags{Fold: true, Dead: true}, append(many(n, "addiu $1,$1,1"), "j 128", "addiu $2,$2,1")...)
		run(t, m, n+2)
		if c := m.Cpu(); c.R[1] != uint32(n) || c.R[2] != 1 || c.PC != startAt {
			t.Errorf("%d: %+v", n, c)
		}
		holdBlocks(t, n, m, (n+15)/16, n)
		run(t, m, n+2)
		holdBlocks(t, fmt.Sprint(n, " again"), m, (n+15)/16, 2*n)
		// Whole blocks are done at once: none begins in the midst of another one.
		for at := range n {
			c := cpu.Reset()
			c.PC, c.Next = startAt+4*uint32(at), startAt+4*uint32(at)+4
			k := m.Clone()
			k.Set(c)
			k.Run(1, nil)
			if isNew := k.Made() > m.Made(); isNew != (at%16 != 0) {
				t.Errorf("%d at %d: %d, %d", n, at, k.Made(), m.Made())
			}
		}
	}
}

// P17.3: a block has no instruction of the next page.
func TestBlockPageEnd(t *testing.T) {
	for ahead := 1; ahead <= 20; ahead++ {
		m := newMachine(t, 8, 64, api.Flags{})
		lay(t, m.Bus(), 0x200, wordsOf(t, many(128, "addiu $1,$1,1")...))
		c := cpu.Reset()
		c.PC = startAt + 256 - 4*uint32(ahead)
		c.Next = c.PC + 4
		m.Set(c)
		p := newPair(m, 64)
		p.run(t, ahead, nil)
		holdBlocks(t, ahead, m, (ahead+15)/16, ahead)
		p.run(t, 16, nil)
		holdBlocks(t, ahead, m, (ahead+15)/16+1, ahead+16)
		c.PC, c.Next = startAt+256, startAt+260
		p.set(c)
		p.run(t, 16, nil)
		holdBlocks(t, ahead, m, (ahead+15)/16+1, ahead+32)
	}
}

// P17.3: the last word of memory: behind it none is there.
func TestBlockMemoryEnd(t *testing.T) {
	m := newMachine(t, 4, 4, api.Flags{})
	lay(t, m.Bus(), 0x3f8, wordsOf(t, "addiu $1,$1,1", "addiu $2,$2,1"))
	c := cpu.Reset()
	c.PC, c.Next = 0x800003fc, 0x80000400
	m.Set(c)
	p := newPair(m, 4)
	p.run(t, 1, nil)
	holdBlocks(t, "last", m, 1, 1)
	p.run(t, 1, nil)
	holdBlocks(t, "behind", m, 1, 1)
	if got := m.Cpu(); got.R[2] != 1 || got.C.Cause != 6<<2 || got.C.EPC != 0x80000400 {
		t.Errorf("%+v", got)
	}
}

// mapped is a state in which the page at addr leads to memory's page at the frame.
func mapped(addr, frame uint32) api.Cpu {
	c := cpu.Reset()
	c.T[3] = api.Entry{Hi: addr &^ 255, Lo: frame&^255 | 2}
	c.PC, c.Next = addr, addr+4
	return c
}

// P17.3: a page that is mapped ends where it ends: the page behind it leads elsewhere.
func TestBlockMapped(t *testing.T) {
	m := newMachine(t, 8, 8, api.Flags{})
	lay(t, m.Bus(), 0x200, wordsOf(t, many(128, "addiu $1,$1,1")...))
	lay(t, m.Bus(), 0x100, wordsOf(t, many(64, "addiu $2,$2,1")...))
	c := mapped(0x5f4, 0x200)
	c.T[1] = api.Entry{Hi: 0x600, Lo: 0x102}
	m.Set(c)
	p := newPair(m, 8)
	p.run(t, 6, nil)
	if got := m.Cpu(); got.R[1] != 3 || got.R[2] != 3 || got.PC != 0x60c {
		t.Errorf("%+v", got)
	}
	holdBlocks(t, "mapped", m, 2, 6)
}

// P17.3: the last page of all: behind it the PC is 0 again.
func TestBlockWraps(t *testing.T) {
	m := newMachine(t, 8, 8, api.Flags{Copy: true})
	lay(t, m.Bus(), 0x2f8, wordsOf(t, "addiu $1,$1,1", "addiu $1,$1,2"))
	m.Set(mapped(0xfffffff8, 0x200))
	p := newPair(m, 8)
	p.run(t, 2, nil)
	if got := m.Cpu(); got.R[1] != 3 || got.PC != 0 || got.Next != 4 {
		t.Errorf("%+v", got)
	}
	holdBlocks(t, "wraps", m, 1, 2)
	p.run(t, 3, nil)
}

// P17.3: what the place of a block is: one word of memory that is reached in several ways is translated once.
func TestBlockPlace(t *testing.T) {
	m := made(t, 4, api.Flags{}, many(16, "addiu $1,$1,1")...)
	for n, c := range []api.Cpu{cpu.Reset(), mapped(0xa0000200, 0), mapped(0x700, 0x200), mapped(0xc0000000, 0x200), mapped(0xffffff00, 0x200)} {
		m.Set(c)
		run(t, m, 16)
		if m.Cpu().R[1] != 16 {
			t.Errorf("%d: %+v", n, m.Cpu())
		}
		holdBlocks(t, n, m, 1, 16+16*n)
	}
}

// P17.3: what one address leads to may be another page then.
func TestBlockMapsAnew(t *testing.T) {
	m := newMachine(t, 8, 4, api.Flags{})
	lay(t, m.Bus(), 0x200, wordsOf(t, "addiu $1,$0,1", "syscall"))
	lay(t, m.Bus(), 0x300, wordsOf(t, "addiu $1,$0,2", "syscall"))
	for n, frame := range []uint32{0x200, 0x300, 0x200, 0x300} {
		m.Set(mapped(0x900, frame))
		run(t, m, 1)
		if m.Cpu().R[1] != frame/256-1 {
			t.Errorf("%#x: %+v", frame, m.Cpu())
		}
		holdBlocks(t, frame, m, min(n+1, 2), n+1)
	}
}

// P17.3: whether one step from a state on, at plain instructions, is made in a block.
func TestBlockStates(t *testing.T) {
	for name, x := range map[string]struct {
		change func(c *api.Cpu)
		want   int
	}{
		"as it is":                  {func(c *api.Cpu) {}, 1},
		"delay slot":                {func(c *api.Cpu) { c.Delay = true }, 0},
		"delay slot, taken":         {func(c *api.Cpu) { c.Delay, c.Next = true, startAt }, 0},
		"Next elsewhere":            {func(c *api.Cpu) { c.Next = startAt + 8 }, 0},
		"Next the same":             {func(c *api.Cpu) { c.Next = startAt }, 0},
		"Next 0":                    {func(c *api.Cpu) { c.Next = 0 }, 0},
		"PC one more":               {func(c *api.Cpu) { c.PC, c.Next = startAt+1, startAt+5 }, 0},
		"PC two more":               {func(c *api.Cpu) { c.PC, c.Next = startAt+2, startAt+6 }, 0},
		"PC three more":             {func(c *api.Cpu) { c.PC, c.Next = startAt+3, startAt+7 }, 0},
		"PC four more":              {func(c *api.Cpu) { c.PC, c.Next = startAt+4, startAt+8 }, 1},
		"IE":                        {func(c *api.Cpu) { c.C.Status = 1 }, 0},
		"EXL":                       {func(c *api.Cpu) { c.C.Status = 2 }, 1},
		"IE and EXL":                {func(c *api.Cpu) { c.C.Status = 3 }, 1},
		"IE, with a mask":           {func(c *api.Cpu) { c.C.Status = 0xff01 }, 0},
		"EXL, with a mask":          {func(c *api.Cpu) { c.C.Status, c.C.Cause = 0xff02, 0xff00 }, 1},
		"IE and EXL, with a mask":   {func(c *api.Cpu) { c.C.Status, c.C.Cause = 0xff03, 0xff00 }, 1},
		"neither, with a mask":      {func(c *api.Cpu) { c.C.Status, c.C.Cause = 0xff00, 0xff00 }, 1},
		"IE, one is pending":        {func(c *api.Cpu) { c.C.Status, c.C.Cause = 0xff01, 0x100 }, 0},
		"all bits but IE":           {func(c *api.Cpu) { c.C.Status = 0xfffffffe }, 1},
		"all bits but EXL":          {func(c *api.Cpu) { c.C.Status = 0xfffffffd }, 0},
		"all bits but EXL and UM":   {func(c *api.Cpu) { c.C.Status = 0xffffffed }, 0},
		"user, at a system's place": {func(c *api.Cpu) { c.C.Status = 0x10 }, 0},
		"user, within an exception": {func(c *api.Cpu) { c.C.Status = 0x12 }, 1},
		"user, mapped":              {func(c *api.Cpu) { *c = mapped(0x900, 0x200); c.C.Status = 0x10 }, 1},
		"user, mapped, IE":          {func(c *api.Cpu) { *c = mapped(0x900, 0x200); c.C.Status = 0x11 }, 0},
		"not mapped":                {func(c *api.Cpu) { *c = mapped(0x900, 0x200); c.PC, c.Next = 0xa00, 0xa04 }, 0},
		"mapped, not valid":         {func(c *api.Cpu) { *c = mapped(0x900, 0x200); c.T[3].Lo &^= 2 }, 0},
		"mapped, another space":     {func(c *api.Cpu) { *c = mapped(0x900, 0x200); c.C.EntryHi = 1 }, 0},
		"mapped behind memory":      {func(c *api.Cpu) { *c = mapped(0x900, 0x800) }, 0},
		"mapped to a device":        {func(c *api.Cpu) { *c = mapped(0x900, api.DevTimer) }, 0},
		"a device":                  {func(c *api.Cpu) { *c = mapped(0xa0000000+api.DevDma, 0) }, 0},
		"behind memory":             {func(c *api.Cpu) { c.PC, c.Next = 0x80000800, 0x80000804 }, 0},
		"other way to memory":       {func(c *api.Cpu) { c.PC, c.Next = 0xa0000200, 0xa0000204 }, 1},
		"the last of all places":    {func(c *api.Cpu) { c.PC, c.Next = 0xfffffffc, 0 }, 0},
		"no multiple, mapped":       {func(c *api.Cpu) { *c = mapped(0x902, 0x200) }, 0},
	} {
		c := cpu.Reset()
		x.change(&c)
		m := made(t, 2, api.Flags{}, many(16, "addiu $1,$1,1")...)
		m.Set(c)
		p := newPair(m, 2)
		p.run(t, 1, nil)
		holdBlocks(t, name, m, x.want, x.want)
	}
}

// P17.3: a delay slot is made by itself, and what comes behind it in a block.
func TestBlockDelay(t *testing.T) {
	m := made(t, 8, api.Flags{}, "addiu $1,$1,1", "beq $0,$0,1", "addiu $2,$2,1", "addiu $3,$3,1", "addiu $4,$4,1", "bne $0,$0,1", "addiu $5,$5,1", "addiu $6,$6,1", "syscall")
	p := newPair(m, 8)
	done := 0
	for n, isDone := range []int{1, 0, 0, 1, 1, 0, 0, 1, 0} {
		p.run(t, 1, nil)
		if done += isDone; m.Done() != done {
			t.Errorf("step %d: %d, wanted %d", n, m.Done(), done)
		}
	}
}

// P17.3: a part of a block is what it was translated to, whatever passes leave out; the next one begins behind it.
func TestBlockParts(t *testing.T) {
	lines := []string{"addiu $1,$0,5", "or $2,$1,$0", "addiu $1,$2,1", "addu $3,$2,$2", "addiu $2,$0,9", "addiu $3,$3,1", "addiu $1,$0,7", "addiu $2,$1,7", "addiu $3,$0,1", "syscall"}
	for _, f := range allFlags() {
		for size := 1; size <= 9; size++ {
			m := made(t, 64, f, lines...)
			p := newPair(m, 64)
			p.run(t, size, nil)
			holdBlocks(t, size, m, 1, size)
			c := cpu.Reset()
			p.set(c)
			p.run(t, 9, nil)
			holdBlocks(t, size, m, 1, size+9)
			p.set(c)
			p.run(t, size, nil)
			holdBlocks(t, size, m, 1, 2*size+9)
			p.run(t, 9-size, nil)
			holdBlocks(t, size, m, 1+min(9-size, 1), 18+size)
		}
	}
}

// P17.3: a block is done up to the next event, and no farther; one at the very next count leaves one step.
func TestBlockEvents(t *testing.T) {
	for at := range 18 {
		for _, kind := range []int{api.EventByte, api.EventStir, 5} {
			m := made(t, 64, api.Flags{}, append(many(16, "addiu $1,$1,1"), "syscall")...)
			p := newPair(m, 64)
			p.run(t, 16, []api.Event{{At: 20}, {At: at, Kind: kind, V: 65}, {At: -5}})
			want := 1
			if at > 0 && at < 16 {
				want = 2 // at the beginning, and at the event
			}
			holdBlocks(t, at, m, want, 16)
		}
	}
	m := made(t, 64, api.Flags{}, append(many(16, "addiu $1,$1,1"), "syscall")...)
	p := newPair(m, 64)
	p.run(t, 16, []api.Event{{At: 9}, {At: 1}, {At: 2}, {At: 2}, {At: 14}, {At: 1}})
	holdBlocks(t, "many", m, 6-1, 16)
}

// P17.3: the step with which a move comes is made by itself; those ahead of it and behind it in blocks.
func TestBlockMoves(t *testing.T) {
	for ticks := range 11 {
		for way := range uint32(3) {
			m := made(t, 64, api.Flags{Dead: true}, append(many(30, "addiu $1,$1,1"), "syscall")...)
			m.Bus().Store(dmaWay, 4, way)
			for range ticks {
				m.Bus().Tick()
			}
			p := newPair(m, 64)
			done := 0
			for n := range 15 {
				p.run(t, 1, nil)
				if way == 0 || n != 9-ticks {
					done++
				}
				if m.Done() != done {
					t.Errorf("way %d, %d ticks, step %d: %d, wanted %d", way, ticks, n, m.Done(), done)
				}
			}
		}
	}
}

// P17.3: with a move two blocks are made: up to it, and from the step behind it on.
func TestBlockMovesAtOnce(t *testing.T) {
	for ticks := range 10 {
		m := made(t, 64, api.Flags{}, append(many(30, "addiu $1,$1,1"), "syscall")...)
		m.Bus().Store(dmaWay, 4, 2)
		for range ticks {
			m.Bus().Tick()
		}
		p := newPair(m, 64)
		p.run(t, 16, nil)
		want := 2
		if ticks == 9 {
			want = 1 // it comes with the first step
		}
		holdBlocks(t, ticks, m, want, 15)
	}
}

// P17.2, P17.3: a move lays other words over those of a block, ahead of where it is, behind it, and there.
func TestMoveOverBlock(t *testing.T) {
	for _, at := range []uint32{0x200, 0x240, 0x1c0} {
		for ticks := range 11 {
			m := made(t, 64, api.Flags{Fold: true}, append(many(40, "addiu $1,$1,1"), "j 128", "addiu $2,$2,1")...)
			lay(t, m.Bus(), 0x700, wordsOf(t, many(16, "addiu $3,$3,1")...))
			b := m.Bus()
			b.Store(api.DevDma, 4, 0x700)
			b.Store(dmaWay, 4, 2)
			for range 10 {
				b.Tick()
			}
			b.Store(api.DevDma, 4, at)
			p := newPair(m, 64)
			p.run(t, 42, nil)
			for _, x := range []*bus.Bus{b, p.o.b} {
				x.Store(dmaWay, 4, 1)
				for range ticks {
					x.Tick()
				}
			}
			p.run(t, 42, nil)
			p.run(t, 42, nil)
			if c := m.Cpu(); at != 0x1c0 && c.R[3] == 0 || c.R[1]+c.R[2]+c.R[3] < 120 {
				t.Errorf("at %#x, %d ticks: %v", at, ticks, c.R)
			}
		}
	}
}

// P17.3: a block is translated if there is none at its place: one that went for want of room, too.
func TestBlockRoom(t *testing.T) {
	for room := 1; room <= 5; room++ {
		m := made(t, room, api.Flags{}, many(64, "addiu $1,$1,1")...)
		p := newPair(m, room)
		for range 5 {
			p.set(cpu.Reset())
			p.run(t, 64, nil)
		}
		want := 4
		if room < 4 {
			want = 20 // each one drives out the one that comes then
		}
		holdBlocks(t, room, m, want, 320)
	}
}

// again makes steps from the beginning, and tells how many blocks were translated for that.
func again(t *testing.T, m *Machine, steps int) int {
	t.Helper()
	was := m.Made()
	m.Set(cpu.Reset())
	run(t, m, steps)
	return m.Made() - was
}

// P17.3: or if its words are other ones: any of them, also where it is shorter then.
func TestBlockWords(t *testing.T) {
	lines := append(many(5, "addiu $1,$1,1"), "syscall", "addiu $1,$1,1", "syscall")
	words := wordsOf(t, lines...)
	for n := range uint32(5) {
		for line, steps := range map[string]int{"addiu $2,$2,1": 5, "lui $2,7": 5, "addiu $1,$1,2": 5, "syscall": int(n), "j 0": int(n), "lw $0,0($0)": int(n), "addi $1,$1,1": int(n)} {
			m := made(t, 64, api.Flags{Dead: true}, lines...)
			run(t, m, 5)
			put := func(w uint32) { lay(t, m.Bus(), 0x200+4*n, []uint32{w}) }
			put(words[n])
			if got := again(t, m, 5); got != 0 {
				t.Errorf("word %d, stored as it was: %d", n, got)
			}
			put(wordsOf(t, line)[0])
			if got := again(t, m, steps); got != min(steps, 1) {
				t.Errorf("word %d to %s: %d", n, line, got)
			}
			if got := again(t, m, steps); got != 0 {
				t.Errorf("word %d to %s, again: %d", n, line, got)
			}
			put(words[n])
			if got := again(t, m, 5); got != min(steps, 1) {
				t.Errorf("word %d, %s, and back: %d", n, line, got)
			}
		}
	}
}

// P17.3: of words behind a block that is not full it matters just whether the first of them is plain.
func TestBlockBehind(t *testing.T) {
	m := made(t, 64, api.Flags{}, append(many(5, "addiu $1,$1,1"), "syscall", "addiu $1,$1,1", "syscall")...)
	for _, x := range []struct {
		at   uint32
		line string
		want int
	}{
		{0x200, "addiu $1,$1,1", 1}, {0x214, "break", 0}, {0x214, "j 0", 0}, {0x218, "addiu $2,$2,1", 0}, {0x218, "break", 0}, {0x21c, "addiu $2,$2,1", 0}, {0x1fc, "addiu $2,$2,1", 0},
		{0x214, "addiu $3,$3,1", 1}, {0x218, "addiu $3,$3,1", 1}, {0x220, "syscall", 1}, {0x220, "break", 0}, {0x214, "syscall", 1},
	} {
		lay(t, m.Bus(), x.at, wordsOf(t, x.line))
		if got := again(t, m, 5); got != x.want {
			t.Errorf("%s at %#x: %d", x.line, x.at, got)
		}
	}
}

// P17.3: where the first word is not plain there is no block; the one that was stays, and is as good as it was when its words come back.
func TestBlockFirstWord(t *testing.T) {
	m := made(t, 64, api.Flags{}, append(many(5, "addiu $1,$1,1"), "syscall")...)
	run(t, m, 5)
	lay(t, m.Bus(), 0x200, wordsOf(t, "syscall"))
	m.Set(cpu.Reset())
	run(t, m, 1)
	holdBlocks(t, "none", m, 1, 5)
	lay(t, m.Bus(), 0x200, wordsOf(t, "addiu $1,$1,1"))
	m.Set(cpu.Reset())
	run(t, m, 5)
	holdBlocks(t, "back", m, 1, 10)
}

// P17.3: behind the end of a block a word becomes plain: the block is longer then.
func TestBlockGrows(t *testing.T) {
	m := made(t, 64, api.Flags{}, append(append(many(5, "addiu $1,$1,1"), "syscall"), many(30, "addiu $2,$2,1")...)...)
	run(t, m, 5)
	holdBlocks(t, "short", m, 1, 5)
	lay(t, m.Bus(), 0x214, wordsOf(t, "addiu $3,$3,1"))
	m.Set(cpu.Reset())
	run(t, m, 16)
	holdBlocks(t, "grown", m, 2, 21)
	m.Set(mapped(0x80000214, 0))
	run(t, m, 1)
	holdBlocks(t, "none began at its end", m, 3, 22)
}

// P17.3: sixteen are a block, whatever comes behind them.
func TestBlockFull(t *testing.T) {
	m := made(t, 64, api.Flags{}, append(many(16, "addiu $1,$1,1"), "syscall")...)
	run(t, m, 16)
	for _, line := range []string{"addiu $1,$1,1", "j 0", "syscall"} {
		lay(t, m.Bus(), 0x240, wordsOf(t, line))
		m.Set(cpu.Reset())
		run(t, m, 16)
	}
	holdBlocks(t, "full", m, 1, 64)
}

// P17.2, P17.3: a store by the program into a block ahead of it, into its own one, into one behind it.
func TestStoreIntoBlock(t *testing.T) {
	for at := 0x20; at < 0x60; at += 4 {
		lines := slices.Concat([]string{"lui $8,32768"}, many(15, "addiu $1,$1,1"), []string{fmt.Sprintf("sw $7,%d($8)", 0x1e0+at)}, many(20, "addiu $2,$2,1"), []string{"j 128", "addiu $7,$7,1"})
		for _, f := range allFlags() {
			m := made(t, 8, f, lines...)
			c := m.Cpu()
			c.R[7] = wordsOf(t, "addiu $3,$3,1")[0]
			m.Set(c)
			p := newPair(m, 8)
			for range 4 {
				p.run(t, 39, nil)
			}
			if got := m.Cpu().R[3]; at != 0x60 && got == 0 {
				t.Errorf("%#x: %v", at, m.Cpu().R)
			}
		}
	}
}

// P17.1: a block has the operations that the machine's passes make, and those that were translated: no state tells these from one another, so the block itself is asked.
func TestBlockOps(t *testing.T) {
	lines := []string{"addiu $1,$0,5", "or $2,$1,$0", "addiu $1,$2,1", "addu $3,$2,$2", "sll $0,$0,0", "addiu $2,$0,9"}
	told := map[int]bool{}
	for _, f := range allFlags() {
		m := made(t, 2, f, append(lines, "syscall")...)
		run(t, m, 1)
		b, isThere := m.blocks.Get(0x200)
		plain := ir.Translate(wordsOf(t, lines...))
		want := api.Block{PC: 0x200, Words: wordsOf(t, lines...), Ops: opt.All(plain, f), Plain: plain}
		if !isThere || b.PC != want.PC || !slices.Equal(b.Words, want.Words) || !slices.Equal(b.Ops, want.Ops) || !slices.Equal(b.Plain, want.Plain) {
			t.Errorf("%+v: %+v, wanted\n%+v", f, b, want)
		}
		told[len(b.Ops)] = true
	}
	if len(told) < 2 {
		t.Error("passes leave nothing out here")
	}
}

// P17.4: Flush forgets all blocks: they are translated anew; what was counted stays.
func TestFlush(t *testing.T) {
	m := made(t, 8, api.Flags{}, many(48, "addiu $1,$1,1")...)
	m.Flush()
	for n := range 4 {
		m.Set(cpu.Reset())
		run(t, m, 48)
		holdBlocks(t, n, m, 3*n+3, 48*n+48)
		rest := m.Rest()
		m.Flush()
		m.Flush()
		if m.Rest() != rest || m.Count() != 48*n+48 {
			t.Errorf("%d: %d", n, m.Count())
		}
		holdBlocks(t, "flushed", m, 3*n+3, 48*n+48)
	}
}
