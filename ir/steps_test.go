package ir

import (
	"math/rand"
	"slices"
	"testing"

	"zoetrope/api"
	"zoetrope/bus"
	"zoetrope/cpu"
)

// stepped are the registers behind each of the processor's steps, from those at the beginning on, with the words where it begins.
func stepped(t *testing.T, l []uint32, r [32]uint32, steps int) [][32]uint32 {
	t.Helper()
	b, e := bus.New(4)
	if e != api.OK {
		t.Fatal(e)
	}
	for n, w := range l {
		if e := b.Store(0x200+4*uint32(n), 4, w); e != api.OK {
			t.Fatal(e)
		}
	}
	c := cpu.Reset()
	c.R = r
	all := [][32]uint32{r}
	all[0][0] = 0
	for n := range steps {
		cpu.Step(&c, b)
		if c.PC != api.ResetAt+4*uint32(n+1) || c.Hi != 0 || c.Lo != 0 || c.Delay {
			t.Fatalf("%#x: step %d leads to %+v", l, n, c)
		}
		all = append(all, c.R)
	}
	return all
}

// holdSteps holds a block against the processor, whole and behind each of its instructions.
func holdSteps(t *testing.T, l []uint32, r [32]uint32) {
	t.Helper()
	ops := Translate(l)
	wanted := stepped(t, l, r, len(ops))
	for count, want := range wanted {
		if got := Until(ops, r, count); got != want {
			t.Fatalf("%#x until %d of\n%x:\n%x, wanted\n%x", l, count, r, got, want)
		}
	}
	last := wanted[len(ops)]
	if got := Run(ops, r); got != last || Until(ops, r, len(ops)) != last || Until(ops, r, 99) != last || !May(ops) {
		t.Fatalf("%#x of\n%x:\n%x, wanted\n%x", l, r, got, last)
	}
}

// P14.3: each plain instruction, of registers at the edges; shifts by registers above 31, slti and sltiu with an imm below 0 among them.
func TestStepsEach(t *testing.T) {
	lines := []string{"sll $7,$5,0", "sll $7,$5,31", "srl $7,$5,0", "srl $7,$5,31", "sra $7,$5,0", "sra $7,$5,31", "addiu $5,$3,-1", "addiu $5,$3,-32768", "slti $5,$3,-1", "slti $5,$3,-32768",
		"sltiu $5,$3,-1", "sltiu $5,$3,-32768", "andi $5,$3,65535", "ori $5,$3,32768", "xori $5,$3,65535", "lui $5,65535", "lui $5,32768", "addu $3,$3,$3", "subu $5,$3,$5", "sllv $3,$5,$3", "nor $0,$3,$5", "lui $0,7"}
	for _, x := range plainLines {
		lines = append(lines, x.line)
	}
	for _, line := range lines {
		l := wordsOf(t, line)
		for _, a := range edges() {
			for _, b := range []uint32{0, 1, 31, 32, 33, most, least, top} {
				holdSteps(t, l, with(regs{0: 0, 3: a, 5: b}))
				holdSteps(t, l, with(regs{0: 0, 3: b, 5: a}))
			}
		}
	}
}

// P14.3: a block told line by line.
func TestStepsBlock(t *testing.T) {
	l := wordsOf(t, "lui $1,32768", "ori $2,$1,65535", "sra $3,$2,4", "sllv $4,$3,$2", "subu $5,$0,$4", "slti $6,$5,-1", "xor $0,$1,$2", "nor $7,$6,$6", "syscall", "addu $1,$1,$1")
	holdSteps(t, l, with(regs{0: 0}))
	holdSteps(t, l, with(regs{0: 12345}))
	want := with(regs{0: 0, 1: 1 << 31, 2: 0x8000ffff, 3: 0xf8000fff, 4: 1 << 31, 5: 1 << 31, 6: 1, 7: 1<<32 - 2})
	sameRegisters(t, "told", Run(Translate(l), with(nil)), want)
}

// P14.3: any words, with any registers, also with R[0] that is not 0.
func TestStepsAny(t *testing.T) {
	r := rand.New(rand.NewSource(144))
	lengths := map[int]int{}
	for range 10000 {
		l := anyWords(r)
		was := slices.Clone(l)
		holdSteps(t, l, anyRegisters(r))
		lengths[len(Translate(l))]++
		if !slices.Equal(l, was) {
			t.Fatalf("%#x, handed in %#x", l, was)
		}
	}
	for n := range 17 {
		if lengths[n] == 0 {
			t.Error("none of", n)
		}
	}
}
