package ir

import (
	"fmt"
	"math/rand"
	"slices"
	"testing"

	"zoetrope/api"
	"zoetrope/asm"
)

// wordsOf are the words of lines.
func wordsOf(t *testing.T, lines ...string) []uint32 {
	t.Helper()
	var l []uint32
	for _, line := range lines {
		w, e := asm.Lines(line)
		if e != api.OK {
			t.Fatalf("%q: %d", line, e)
		}
		l = append(l, w...)
	}
	return l
}

func sameOps(t *testing.T, what any, got, want []api.Micro) {
	t.Helper()
	if !slices.Equal(got, want) {
		t.Errorf("%v:\n%+v, wanted\n%+v", what, got, want)
	}
}

// lineOf is a line, and its operation without a Count.
type lineOf struct {
	line string
	m    api.Micro
}

// plainLines are all plain instructions; the fields are told apart by their numbers: rs 3, rt 5, rd 7, sa 11, imm 13.
var plainLines = []lineOf{
	{"sll $7,$5,11", api.Micro{Kind: api.MicroLeft, Dst: 7, A: 5, B: 32, Imm: 11}},
	{"srl $7,$5,11", api.Micro{Kind: api.MicroRight, Dst: 7, A: 5, B: 32, Imm: 11}},
	{"sra $7,$5,11", api.Micro{Kind: api.MicroArith, Dst: 7, A: 5, B: 32, Imm: 11}},
	{"sllv $7,$5,$3", api.Micro{Kind: api.MicroLeft, Dst: 7, A: 5, B: 3}},
	{"srlv $7,$5,$3", api.Micro{Kind: api.MicroRight, Dst: 7, A: 5, B: 3}},
	{"srav $7,$5,$3", api.Micro{Kind: api.MicroArith, Dst: 7, A: 5, B: 3}},
	{"addu $7,$3,$5", api.Micro{Kind: api.MicroAdd, Dst: 7, A: 3, B: 5}},
	{"subu $7,$3,$5", api.Micro{Kind: api.MicroSub, Dst: 7, A: 3, B: 5}},
	{"and $7,$3,$5", api.Micro{Kind: api.MicroAnd, Dst: 7, A: 3, B: 5}},
	{"or $7,$3,$5", api.Micro{Kind: api.MicroOr, Dst: 7, A: 3, B: 5}},
	{"xor $7,$3,$5", api.Micro{Kind: api.MicroXor, Dst: 7, A: 3, B: 5}},
	{"nor $7,$3,$5", api.Micro{Kind: api.MicroNor, Dst: 7, A: 3, B: 5}},
	{"slt $7,$3,$5", api.Micro{Kind: api.MicroLess, Dst: 7, A: 3, B: 5}},
	{"sltu $7,$3,$5", api.Micro{Kind: api.MicroLessU, Dst: 7, A: 3, B: 5}},
	{"addiu $5,$3,13", api.Micro{Kind: api.MicroAdd, Dst: 5, A: 3, B: 32, Imm: 13}},
	{"slti $5,$3,13", api.Micro{Kind: api.MicroLess, Dst: 5, A: 3, B: 32, Imm: 13}},
	{"sltiu $5,$3,13", api.Micro{Kind: api.MicroLessU, Dst: 5, A: 3, B: 32, Imm: 13}},
	{"andi $5,$3,13", api.Micro{Kind: api.MicroAnd, Dst: 5, A: 3, B: 32, Imm: 13}},
	{"ori $5,$3,13", api.Micro{Kind: api.MicroOr, Dst: 5, A: 3, B: 32, Imm: 13}},
	{"xori $5,$3,13", api.Micro{Kind: api.MicroXor, Dst: 5, A: 3, B: 32, Imm: 13}},
	{"lui $5,13", api.Micro{Kind: api.MicroSet, Dst: 5, Imm: 13 * 65536}},
}

// otherLines are all instructions that are not plain.
var otherLines = []string{
	"jr $3", "jalr $7,$3", "movz $7,$3,$5", "movn $7,$3,$5", "syscall", "break", "mfhi $7", "mthi $3", "mflo $7", "mtlo $3",
	"mult $3,$5", "multu $3,$5", "div $3,$5", "divu $3,$5", "add $7,$3,$5", "sub $7,$3,$5", "teq $3,$5", "tne $3,$5",
	"mul $7,$3,$5", "clz $7,$3", "clo $7,$3", "bltz $3,13", "bgez $3,13", "bltzal $3,13", "bgezal $3,13", "j 13", "jal 13",
	"beq $3,$5,13", "bne $3,$5,13", "blez $3,13", "bgtz $3,13", "addi $5,$3,13", "mfc0 $5,$7", "mtc0 $5,$7",
	"tlbr", "tlbwi", "tlbp", "eret", "lb $5,13($3)", "lh $5,13($3)", "lw $5,13($3)", "lbu $5,13($3)", "lhu $5,13($3)",
	"sb $5,13($3)", "sh $5,13($3)", "sw $5,13($3)", "ll $5,13($3)", "sc $5,13($3)",
}

// noInstructions are words that are none: of no major or minor, and of plain instructions with bits where 0 must stand.
var noInstructions = []uint32{
	0xffffffff, 1, 5, 0x3f, 0x4fffffff, 1 << 21, 31<<21 | 7<<11, 1<<21 | 2, 1<<21 | 3, 1<<6 | 4, 31<<6 | 6, 1<<6 | 7,
	1<<6 | 33, 1<<6 | 35, 1<<6 | 36, 16<<6 | 37, 1<<6 | 38, 1<<6 | 39, 1<<6 | 42, 1<<6 | 43, 15<<26 | 1<<21, 15<<26 | 31<<21 | 5<<16,
}

// P14.1: each plain instruction by itself, and all of them, in goes of sixteen, with their places.
func TestTranslateEach(t *testing.T) {
	if len(plainLines) != 21 || len(plainLines)+len(otherLines) != api.Ops {
		t.Fatal(len(plainLines), len(otherLines))
	}
	for _, x := range plainLines {
		want := x.m
		want.Count = 1
		sameOps(t, x.line, Translate(wordsOf(t, x.line)), []api.Micro{want})
	}
	for from := range len(plainLines) {
		var lines []string
		var want []api.Micro
		for n := from; n < len(plainLines) && n < from+16; n++ {
			lines = append(lines, plainLines[n].line)
			m := plainLines[n].m
			m.Count = n - from + 1
			want = append(want, m)
		}
		sameOps(t, from, Translate(wordsOf(t, lines...)), want)
	}
}

// P14.1: numbers at their edges: shifts by 0 and 31, an imm with a sign, one without, lui.
func TestTranslateNumbers(t *testing.T) {
	number := func(kind int, imm uint32) api.Micro {
		return api.Micro{Kind: kind, Dst: 9, A: 8, B: 32, Imm: imm, Count: 1}
	}
	for line, want := range map[string]api.Micro{
		"sll $9,$8,0": number(api.MicroLeft, 0), "sll $9,$8,31": number(api.MicroLeft, 31),
		"srl $9,$8,0": number(api.MicroRight, 0), "srl $9,$8,31": number(api.MicroRight, 31),
		"sra $9,$8,0": number(api.MicroArith, 0), "sra $9,$8,31": number(api.MicroArith, 31),
		"addiu $9,$8,0": number(api.MicroAdd, 0), "addiu $9,$8,-1": number(api.MicroAdd, 1<<32-1),
		"addiu $9,$8,32767": number(api.MicroAdd, 32767), "addiu $9,$8,-32768": number(api.MicroAdd, 0xffff8000),
		"slti $9,$8,-1": number(api.MicroLess, 1<<32-1), "slti $9,$8,32767": number(api.MicroLess, 32767),
		"slti $9,$8,-32768": number(api.MicroLess, 0xffff8000), "slti $9,$8,0": number(api.MicroLess, 0),
		"sltiu $9,$8,-1": number(api.MicroLessU, 1<<32-1), "sltiu $9,$8,32767": number(api.MicroLessU, 32767),
		"sltiu $9,$8,-32768": number(api.MicroLessU, 0xffff8000), "sltiu $9,$8,0": number(api.MicroLessU, 0),
		"andi $9,$8,0": number(api.MicroAnd, 0), "andi $9,$8,32768": number(api.MicroAnd, 32768), "andi $9,$8,65535": number(api.MicroAnd, 65535),
		"ori $9,$8,0": number(api.MicroOr, 0), "ori $9,$8,32768": number(api.MicroOr, 32768), "ori $9,$8,65535": number(api.MicroOr, 65535),
		"xori $9,$8,0": number(api.MicroXor, 0), "xori $9,$8,32768": number(api.MicroXor, 32768), "xori $9,$8,65535": number(api.MicroXor, 65535),
		"lui $9,0": {Kind: api.MicroSet, Dst: 9, Count: 1}, "lui $9,1": {Kind: api.MicroSet, Dst: 9, Imm: 65536, Count: 1},
		"lui $9,32768": {Kind: api.MicroSet, Dst: 9, Imm: 1 << 31, Count: 1}, "lui $9,65535": {Kind: api.MicroSet, Dst: 9, Imm: 0xffff0000, Count: 1},
		"addu $31,$31,$31": {Kind: api.MicroAdd, Dst: 31, A: 31, B: 31, Count: 1}, "subu $1,$0,$0": {Kind: api.MicroSub, Dst: 1, Count: 1},
		"srav $1,$0,$31": {Kind: api.MicroArith, Dst: 1, B: 31, Count: 1}, "or $1,$31,$0": {Kind: api.MicroOr, Dst: 1, A: 31, Count: 1},
	} {
		sameOps(t, line, Translate(wordsOf(t, line)), []api.Micro{want})
	}
}

// P14.1: where the register to be written is 0 there is nothing else than a Count, whichever field names it; where one that is read is 0 it is an ordinary one.
func TestTranslateToZero(t *testing.T) {
	lines := []string{
		"sll $0,$5,11", "srl $0,$5,11", "sra $0,$5,11", "sllv $0,$5,$3", "srlv $0,$5,$3", "srav $0,$5,$3",
		"addu $0,$3,$5", "subu $0,$3,$5", "and $0,$3,$5", "or $0,$3,$5", "xor $0,$3,$5", "nor $0,$3,$5", "slt $0,$3,$5", "sltu $0,$3,$5",
		"addiu $0,$3,13", "slti $0,$3,-13", "sltiu $0,$3,13", "andi $0,$3,13", "ori $0,$3,13", "xori $0,$3,13", "lui $0,13", "sll $0,$0,0",
	}
	for _, line := range lines {
		sameOps(t, line, Translate(wordsOf(t, line)), []api.Micro{{Count: 1}})
		got := Translate(wordsOf(t, "addu $7,$0,$0", line, "addiu $5,$0,0", line))
		sameOps(t, line, got, []api.Micro{{Kind: api.MicroAdd, Dst: 7, Count: 1}, {Count: 2}, {Kind: api.MicroAdd, Dst: 5, B: 32, Count: 3}, {Count: 4}})
	}
}

// P14.1: the chapter's example.
func TestTranslateExample(t *testing.T) {
	got := Translate(wordsOf(t, "addiu $1,$0,5", "sll $2,$1,3", "lw $3,0($2)"))
	sameOps(t, "example", got, []api.Micro{{Kind: api.MicroAdd, Dst: 1, A: 0, B: 32, Imm: 5, Count: 1}, {Kind: api.MicroLeft, Dst: 2, A: 1, B: 32, Imm: 3, Count: 2}})
}

// P14.1: no words, and more than a block has.
func TestTranslateLengths(t *testing.T) {
	sameOps(t, "nil", Translate(nil), nil)
	sameOps(t, "none", Translate([]uint32{}), nil)
	for _, n := range []int{1, 2, 15, 16, 17, 18, 31, 32, 33, 1000, 1 << 16} {
		var l []uint32
		var want []api.Micro
		for k := range n {
			l = append(l, wordsOf(t, fmt.Sprintf("addiu $%d,$1,%d", k%31+1, k%32768))...)
			if k < 16 {
				want = append(want, api.Micro{Kind: api.MicroAdd, Dst: k + 1, A: 1, B: 32, Imm: uint32(k), Count: k + 1})
			}
		}
		sameOps(t, n, Translate(l), want)
	}
}

// P14.1: what is not plain ends the row, wherever it stands, and whatever stands behind it.
func TestTranslateEnds(t *testing.T) {
	ends := slices.Concat(wordsOf(t, otherLines...), noInstructions)
	for _, end := range ends {
		for at := range 20 {
			l := make([]uint32, 20)
			l[at] = end
			var want []api.Micro
			for n := range min(at, 16) {
				want = append(want, api.Micro{Count: n + 1})
			}
			sameOps(t, fmt.Sprintf("%#x at %d", end, at), Translate(l), want)
			sameOps(t, fmt.Sprintf("%#x at %d, the last", end, at), Translate(l[:at+1]), want)
		}
	}
}

// told is a plain reckoning of a word's bits, that shares nothing with the packages below.
func told(w uint32) (api.Micro, bool) {
	rs, rt, rd, sa, low := int(w>>21&31), int(w>>16&31), int(w>>11&31), w>>6&31, w&0xffff
	signed := uint32(int32(int16(low)))
	var m api.Micro
	switch w >> 26 {
	case 0:
		kinds := map[uint32]int{
			0: api.MicroLeft, 2: api.MicroRight, 3: api.MicroArith, 4: api.MicroLeft, 6: api.MicroRight, 7: api.MicroArith,
			33: api.MicroAdd, 35: api.MicroSub, 36: api.MicroAnd, 37: api.MicroOr, 38: api.MicroXor, 39: api.MicroNor, 42: api.MicroLess, 43: api.MicroLessU,
		}
		minor := w & 63
		kind, ok := kinds[minor]
		if !ok || minor < 4 && rs != 0 || minor >= 4 && sa != 0 {
			return m, false
		}
		switch {
		case minor < 4:
			m = api.Micro{Kind: kind, Dst: rd, A: rt, B: 32, Imm: sa}
		case minor < 8:
			m = api.Micro{Kind: kind, Dst: rd, A: rt, B: rs}
		default:
			m = api.Micro{Kind: kind, Dst: rd, A: rs, B: rt}
		}
	case 9:
		m = api.Micro{Kind: api.MicroAdd, Dst: rt, A: rs, B: 32, Imm: signed}
	case 10:
		m = api.Micro{Kind: api.MicroLess, Dst: rt, A: rs, B: 32, Imm: signed}
	case 11:
		m = api.Micro{Kind: api.MicroLessU, Dst: rt, A: rs, B: 32, Imm: signed}
	case 12:
		m = api.Micro{Kind: api.MicroAnd, Dst: rt, A: rs, B: 32, Imm: low}
	case 13:
		m = api.Micro{Kind: api.MicroOr, Dst: rt, A: rs, B: 32, Imm: low}
	case 14:
		m = api.Micro{Kind: api.MicroXor, Dst: rt, A: rs, B: 32, Imm: low}
	case 15:
		if rs != 0 {
			return m, false
		}
		m = api.Micro{Kind: api.MicroSet, Dst: rt, Imm: low << 16}
	default:
		return m, false
	}
	if m.Dst == 0 {
		m = api.Micro{}
	}
	return m, true
}

func toldAll(l []uint32) []api.Micro {
	var all []api.Micro
	for n, w := range l {
		m, ok := told(w)
		if !ok || n == 16 {
			break
		}
		m.Count = n + 1
		all = append(all, m)
	}
	return all
}

// plainWord is the word of a plain instruction with any fields; few registers, so that one reads what another one wrote.
func plainWord(r *rand.Rand, most int) uint32 {
	s, t, d := uint32(r.Intn(most))<<21, uint32(r.Intn(most))<<16, uint32(r.Intn(most))<<11
	low := uint32(r.Intn(1 << 16))
	if r.Intn(3) == 0 {
		low = []uint32{0, 1, 31, 32, 0x7fff, 0x8000, 0xffff}[r.Intn(7)]
	}
	switch n := r.Intn(21); {
	case n < 3:
		return t | d | low&31<<6 | []uint32{0, 2, 3}[n]
	case n < 14:
		return s | t | d | []uint32{4, 6, 7, 33, 35, 36, 37, 38, 39, 42, 43}[n-3]
	case n < 20:
		return uint32(n-14+9)<<26 | s | t | low
	}
	return 15<<26 | t | low
}

// anyWords are words of any kind, more often plain ones.
func anyWords(r *rand.Rand) []uint32 {
	l := make([]uint32, r.Intn(24))
	odd := []int{2, 10, 40, 1000}[r.Intn(4)]
	for n := range l {
		l[n] = plainWord(r, []int{4, 32}[r.Intn(2)])
		switch r.Intn(odd) {
		case 0:
			l[n] = r.Uint32()
		case 1:
			l[n] ^= 1 << r.Intn(32)
		}
	}
	return l
}

// P14.1, P14.3: any words: what is told is what their bits say, and may be.
func TestTranslateAny(t *testing.T) {
	r := rand.New(rand.NewSource(141))
	lengths := map[int]int{}
	for range 50000 {
		l := anyWords(r)
		got := Translate(l)
		if want := toldAll(l); !slices.Equal(got, want) || !May(got) {
			t.Fatalf("%#x:\n%+v, wanted\n%+v, %v", l, got, want, May(got))
		}
		lengths[len(got)]++
	}
	for n := range 17 {
		if lengths[n] == 0 {
			t.Error("none of", n)
		}
	}
	for range 200000 {
		w := r.Uint32()
		if r.Intn(2) == 0 {
			w &= 0x03ffffff
		}
		if got, want := Translate([]uint32{w}), toldAll([]uint32{w}); !slices.Equal(got, want) {
			t.Fatalf("%#x: %+v, wanted %+v", w, got, want)
		}
	}
}

// P14.1, R4: words, and the room behind them, stay as they are; what is told is its owner's, spare room too.
func TestTranslateOwner(t *testing.T) {
	room := wordsOf(t, "addiu $1,$0,5", "sll $2,$1,3", "nor $3,$1,$2", "syscall", "addu $1,$1,$1")
	was := slices.Clone(room)
	first := Translate(room[:3])
	want := slices.Clone(first)
	second := Translate(room[:3])
	full := first[:cap(first)]
	for n := range full {
		full[n] = api.Micro{Kind: -7, Dst: -7, A: -7, B: -7, Imm: 7, Count: -7}
	}
	sameOps(t, "told ahead", second, want)
	sameOps(t, "told later", Translate(room[:3]), want)
	clear(room)
	sameOps(t, "words changed", second, want)
	copy(room, was)
	Translate(room)
	Translate(room[:2])
	if !slices.Equal(room, was) {
		t.Errorf("%#x, wanted %#x", room, was)
	}
}
