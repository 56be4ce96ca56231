package asm

import (
	"fmt"
	"math"
	"math/rand"
	"regexp"
	"slices"
	"strconv"
	"strings"
	"testing"

	"zoetrope/api"
	"zoetrope/decode"
)

// told is a text of each instruction, in the order of the Ops; within each one the fields are told apart by their numbers: rs 3, rt 5, rd 7, sa 11, imm 13.
const told = `sll $7,$5,11
srl $7,$5,11
sra $7,$5,11
sllv $7,$5,$3
srlv $7,$5,$3
srav $7,$5,$3
jr $3
jalr $7,$3
movz $7,$3,$5
movn $7,$3,$5
syscall
break
mfhi $7
mthi $3
mflo $7
mtlo $3
mult $3,$5
multu $3,$5
div $3,$5
divu $3,$5
add $7,$3,$5
addu $7,$3,$5
sub $7,$3,$5
subu $7,$3,$5
and $7,$3,$5
or $7,$3,$5
xor $7,$3,$5
nor $7,$3,$5
slt $7,$3,$5
sltu $7,$3,$5
teq $3,$5
tne $3,$5
mul $7,$3,$5
clz $7,$3
clo $7,$3
bltz $3,13
bgez $3,13
bltzal $3,13
bgezal $3,13
j 13
jal 13
beq $3,$5,13
bne $3,$5,13
blez $3,13
bgtz $3,13
addi $5,$3,13
addiu $5,$3,13
slti $5,$3,13
sltiu $5,$3,13
andi $5,$3,13
ori $5,$3,13
xori $5,$3,13
lui $5,13
mfc0 $5,$7
mtc0 $5,$7
tlbr
tlbwi
tlbp
eret
lb $5,13($3)
lh $5,13($3)
lw $5,13($3)
lbu $5,13($3)
lhu $5,13($3)
sb $5,13($3)
sh $5,13($3)
sw $5,13($3)
ll $5,13($3)
sc $5,13($3)
`

// toldOps are the lines of told.
func toldOps() []string { return strings.Split(strings.TrimSuffix(told, "\n"), "\n") }

// numbers are the fields' numbers in told.
var numbers = regexp.MustCompile(`\d+`)

// fieldOf is the field that a number in told stands for.
func fieldOf(i *api.Instr, number string) *int {
	return map[string]*int{"3": &i.Rs, "5": &i.Rt, "7": &i.Rd, "11": &i.Sa, "13": &i.Imm}[number]
}

// has are the numbers that stand for an op's fields. (mfc0 and mtc0 have a digit in their names.)
func has(op int) []string {
	_, behind, _ := strings.Cut(toldOps()[op], " ")
	return numbers.FindAllString(behind, -1)
}

// wanted is an instruction's text by the line in told, the numbers set in.
func wanted(i api.Instr) string {
	name, behind, ok := strings.Cut(toldOps()[i.Op], " ")
	if !ok {
		return name
	}
	return name + " " + numbers.ReplaceAllStringFunc(behind, func(n string) string {
		return fmt.Sprint(*fieldOf(&i, n))
	})
}

// bounds are those of an op's imm.
func bounds(op int) (int, int) {
	switch name, _, _ := strings.Cut(toldOps()[op], " "); name {
	case "j", "jal":
		return 0, 67108863
	case "andi", "ori", "xori", "lui":
		return 0, 65535
	}
	return -32768, 32767
}

// edges are what a field of an op may be at its least, its greatest and between.
func edges(op int, number string) []int {
	if number != "13" {
		return []int{0, 1, 9, 10, 30, 31}
	}
	least, most := bounds(op)
	if least < 0 {
		return []int{least, least + 1, -100, -10, -1, 0, 1, 10, 4096, most - 1, most}
	}
	return []int{0, 1, 10, 32767, 32768, most - 1, most}
}

// shape matches an op's texts, but for the numbers' bounds.
func shape(op int) *regexp.Regexp {
	name, behind, ok := strings.Cut(toldOps()[op], " ")
	if !ok {
		return regexp.MustCompile(`\A` + name + `\z`)
	}
	marks := numbers.ReplaceAllString(regexp.QuoteMeta(behind), `(0|-?[1-9][0-9]*)`)
	return regexp.MustCompile(`\A` + name + ` ` + marks + `\z`)
}

// shapes are those of all ops.
func shapes() []*regexp.Regexp {
	var all []*regexp.Regexp
	for op := range toldOps() {
		all = append(all, shape(op))
	}
	return all
}

// sought is the instruction whose text s is, by the shapes.
func sought(all []*regexp.Regexp, s string) (api.Instr, api.Errno) {
	for op, r := range all {
		m := r.FindStringSubmatch(s)
		if m == nil {
			continue
		}
		i := api.Instr{Op: op}
		for at, number := range has(op) {
			n, err := strconv.Atoi(m[at+1])
			least, most := 0, 31
			if number == "13" {
				least, most = bounds(op)
			}
			if err != nil || n < least || n > most {
				return api.Instr{}, api.ErrAsmText
			}
			*fieldOf(&i, number) = n
		}
		return i, api.OK
	}
	return api.Instr{}, api.ErrAsmText
}

// some is an instruction of an op, with any numbers that it may have.
func some(r *rand.Rand, op int) api.Instr {
	i := api.Instr{Op: op}
	for _, number := range has(op) {
		*fieldOf(&i, number) = r.Intn(32)
		if number == "13" {
			least, most := bounds(op)
			i.Imm = least + r.Intn(most-least+1)
		}
	}
	return i
}

// both fails unless the instruction is printed as s, and s parsed as the instruction.
func both(t *testing.T, i api.Instr, s string) {
	t.Helper()
	if got, e := Print(i); got != s || e != api.OK {
		t.Errorf("Print(%+v) = %q, %v; want %q", i, got, e, s)
	}
	if got, e := Parse(s); got != i || e != api.OK {
		t.Errorf("Parse(%q) = %+v, %v; want %+v", s, got, e, i)
	}
}

func refused(t *testing.T, s string) {
	t.Helper()
	if i, e := Parse(s); i != (api.Instr{}) || e != api.ErrAsmText {
		t.Errorf("Parse(%q) = %+v, %v; want ErrAsmText", s, i, e)
	}
}

// P5.1: the chapter's examples.
func TestExamples(t *testing.T) {
	both(t, api.Instr{Op: api.OpAddu, Rd: 2, Rs: 4, Rt: 5}, "addu $2,$4,$5")
	both(t, api.Instr{Op: api.OpLw, Rt: 8, Imm: -4, Rs: 29}, "lw $8,-4($29)")
	both(t, api.Instr{Op: api.OpSyscall}, "syscall")
	both(t, api.Instr{}, "sll $0,$0,0")
	both(t, api.Instr{Op: api.OpJal, Imm: 16}, "jal 16")
	refused(t, "addu $2, $4,$5")
}

// P5.1: each instruction of the table, its fields in the form's order.
func TestEachInstruction(t *testing.T) {
	lines := toldOps()
	if len(lines) != api.Ops {
		t.Fatalf("%d lines", len(lines))
	}
	for op, line := range lines {
		i := api.Instr{Op: op}
		for _, number := range has(op) {
			*fieldOf(&i, number), _ = strconv.Atoi(number)
		}
		both(t, i, line)
		if name, _, _ := strings.Cut(line, " "); decode.Name(op) != name {
			t.Errorf("%s: %s", name, decode.Name(op))
		}
	}
}

// P5.1: registers, sa and imm at their bounds, each with the others at nought, and at their greatest.
func TestEdges(t *testing.T) {
	for op := range api.Ops {
		for _, rest := range []bool{false, true} {
			base := api.Instr{Op: op}
			for _, number := range has(op) {
				if l := edges(op, number); rest {
					*fieldOf(&base, number) = l[len(l)-1]
				}
			}
			for _, number := range has(op) {
				for _, n := range edges(op, number) {
					i := base
					*fieldOf(&i, number) = n
					both(t, i, wanted(i))
				}
			}
		}
	}
}

// P5.1: written out, what the document's bounds look like.
func TestEdgesWrittenOut(t *testing.T) {
	both(t, api.Instr{Op: api.OpSll, Rd: 31, Rt: 31, Sa: 31}, "sll $31,$31,31")
	both(t, api.Instr{Op: api.OpSw, Rt: 31, Imm: -32768}, "sw $31,-32768($0)")
	both(t, api.Instr{Op: api.OpSc, Imm: 32767, Rs: 31}, "sc $0,32767($31)")
	both(t, api.Instr{Op: api.OpLb}, "lb $0,0($0)")
	both(t, api.Instr{Op: api.OpBgezal, Rs: 31, Imm: -1}, "bgezal $31,-1")
	both(t, api.Instr{Op: api.OpBne, Imm: -32768}, "bne $0,$0,-32768")
	both(t, api.Instr{Op: api.OpSltiu, Imm: -1}, "sltiu $0,$0,-1")
	both(t, api.Instr{Op: api.OpXori, Imm: 65535}, "xori $0,$0,65535")
	both(t, api.Instr{Op: api.OpLui, Rt: 31, Imm: 65535}, "lui $31,65535")
	both(t, api.Instr{Op: api.OpLui}, "lui $0,0")
	both(t, api.Instr{Op: api.OpJ, Imm: 67108863}, "j 67108863")
	both(t, api.Instr{Op: api.OpJ}, "j 0")
}

// P5.1: instructions that may not be have no text.
func TestPrintRefuses(t *testing.T) {
	none := func(i api.Instr) {
		t.Helper()
		if s, e := Print(i); s != "" || e != api.ErrAsmText {
			t.Errorf("Print(%+v) = %q, %v; want ErrAsmText", i, s, e)
		}
	}
	for _, op := range []int{-1, api.Ops, api.Ops + 1, math.MinInt, math.MaxInt} {
		none(api.Instr{Op: op})
	}
	for op := range api.Ops {
		for _, number := range []string{"3", "5", "7", "11", "13"} {
			wrong := []int{-1, 1, 31, 65535, math.MinInt, math.MaxInt}
			if slices.Contains(has(op), number) {
				wrong = []int{-1, 32, 1 << 16, math.MinInt, math.MaxInt}
			}
			if slices.Contains(has(op), number) && number == "13" {
				least, most := bounds(op)
				wrong = []int{least - 1, most + 1, 1 << 32, math.MinInt, math.MaxInt}
			}
			for _, n := range wrong {
				i := api.Instr{Op: op}
				*fieldOf(&i, number) = n
				none(i)
			}
		}
	}
}

// P5.1: names that are none.
func TestNamesThatAreNone(t *testing.T) {
	for _, s := range []string{"", " ", "x", "add", "nop", "ADDU $2,$4,$5", "Addu $2,$4,$5", "add u $2,$4,$5", "adduu $2,$4,$5", "ad $2,$4,$5", "$2,$4,$5", " $2,$4,$5", "20 $2,$4,$5", "eret2", "syscal", "syscalls", "Syscall", "éret"} {
		refused(t, s)
	}
	for _, line := range toldOps() {
		name, behind, ok := strings.Cut(line, " ")
		refused(t, strings.ToUpper(line))
		refused(t, "q"+line)
		refused(t, name+"x")
		refused(t, name+" "+name)
		refused(t, behind+" "+name)
		if ok {
			refused(t, name)
			refused(t, name+" ")
			refused(t, name+behind)
			refused(t, name+"x "+behind)
		}
	}
}

// P5.1: blanks and marks too much, too few or where none belong, and fields that are missing or further ones.
func TestMarks(t *testing.T) {
	for _, s := range []string{
		" addu $2,$4,$5", "addu  $2,$4,$5", "addu $2,$4,$5 ", "addu $2 ,$4,$5", "addu $ 2,$4,$5", "addu\t$2,$4,$5", "addu $2,$4,$5\n", "addu $2,$4,$5\r", "addu$2,$4,$5", "addu,$2,$4,$5",
		"addu $2,$4", "addu $2", "addu $2,$4,", "addu ,$4,$5", "addu $2,,$5", "addu $2,$4,$5,$6", "addu $2,$4,$5,", "addu ,$2,$4,$5", "addu $2,,$4,$5", "addu $2$4$5", "addu $2 $4 $5", "addu $2;$4;$5",
		"addu 2,4,5", "addu $2,$4,5", "addu $2,4,$5", "addu $$2,$4,$5", "addu $,$4,$5", "addu 2$,$4,$5", "addu $2,$4,$", "addu $r2,$4,$5", "addu $2,$4,($5)", "addu $2,$4($5)", "addu ($2),$4,$5",
		"sll $1,$2,$3", "sll $1,$2", "sll $1,2,3", "sll $1,$2,(3)", "jr 31", "jr", "jr $31,$2", "jal $16", "jal (16)", "jal 16,0", "jal 16 0", "jal ", "lui $1,$2", "addiu $2,$29,$4", "addiu $2,-4", "addiu $2,-4($29)", "mfc0 $1,12", "mfc0 $1,$12,0",
		"lw $8", "lw $8,-4", "lw $8,-4(", "lw $8,-4($", "lw $8,-4($29", "lw $8,-4$29)", "lw $8,-4$29", "lw $8,-4(29)", "lw $8,-4,$29", "lw $8,$29,-4", "lw $8,-4()", "lw $8,()", "lw $8,($29)", "lw $8,$4($29)", "lw 8,-4($29)", "lw $8,-4($29))", "lw $8,-4(($29)", "lw $8,-4 ($29)", "lw $8,-4($29) ", "lw $8,-4($29),", "lw $8,-4[$29]", "lw $8(-4,$29)", "lw $8-4($29)", "lw ($29)-4,$8",
		"syscall ", " syscall", "syscall 0", "syscall $0", "syscall,", "syscall()", "eret ", "eret 0", "tlbr\n",
	} {
		refused(t, s)
	}
}

// P5.1: numbers with noughts or signs too many, without digits, beyond their bounds, and beyond what an int holds.
func TestNumbers(t *testing.T) {
	for _, n := range []string{"", "00", "01", "007", "+0", "+1", "-0", "-00", "-01", "--1", "-", "1-", "1-1", "- 1", "0x1", "1e1", "1_0", "1.", "a", "١", "32768", "-32769", "65535", "65536", "-65536", "99999", "4294967295", "4294967296", "-4294967296", "9223372036854775807", "9223372036854775808", "-9223372036854775808", "-9223372036854775809", "18446744073709551616", "18446744073709551617", strings.Repeat("1", 100), strings.Repeat("0", 100) + "1", strings.Repeat("9", 1<<16), "-" + strings.Repeat("1", 50)} {
		refused(t, "addiu $1,$2,"+n)
		refused(t, "bltz $1,"+n)
		refused(t, "lw $1,"+n+"($2)")
		refused(t, "sll $1,$2,"+n)
		refused(t, "jr $"+n)
	}
	for _, n := range []string{"-1", "65536", "67108863", "067", "+5", "-0", "4294967296", "18446744073709551616"} {
		refused(t, "ori $1,$2,"+n)
		refused(t, "lui $1,"+n)
	}
	for _, n := range []string{"-1", "67108864", "67108880", "4294967296", "-67108863", "+5", "-0", "016", strings.Repeat("7", 1000)} {
		refused(t, "j "+n)
		refused(t, "jal "+n)
	}
	for _, n := range []string{"32", "33", "63", "64", "100", "256", "-1", "-31", "031", "00", "+31", "4294967296", "18446744073709551616", "", "sp"} {
		refused(t, "addu $"+n+",$4,$5")
		refused(t, "addu $2,$"+n+",$5")
		refused(t, "addu $2,$4,$"+n)
		refused(t, "sll $1,$2,"+n)
		refused(t, "lw $"+n+",0($2)")
		refused(t, "lw $1,0($"+n+")")
		refused(t, "mtc0 $1,$"+n)
	}
}

// P5.1: any bytes, also 0 and those above 127: what stands a byte away from a text is just what the shapes say.
func TestEveryByteNearTexts(t *testing.T) {
	all := shapes()
	asked := func(s string) {
		t.Helper()
		want, wantErr := sought(all, s)
		if i, e := Parse(s); i != want || e != wantErr {
			t.Errorf("Parse(%q) = %+v, %v; want %+v, %v", s, i, e, want, wantErr)
		}
	}
	for _, s := range []string{"addu $2,$4,$31", "sll $0,$10,30", "lw $8,-4($29)", "sw $1,32767($2)", "bltzal $4,-32768", "andi $1,$2,6553", "jal 6710886", "mfc0 $9,$12", "jr $3", "eret", "mult $2,$3"} {
		asked(s)
		for at := range len(s) + 1 {
			asked(s[:at])
			asked(s[at:])
			for b := range 256 {
				asked(s[:at] + string([]byte{byte(b)}) + s[at:])
				if at < len(s) {
					asked(s[:at] + string([]byte{byte(b)}) + s[at+1:])
				}
			}
			if at < len(s) {
				asked(s[:at] + s[at+1:])
			}
		}
	}
}

// P5.1: texts put together of pieces of texts.
func TestPiecesOfTexts(t *testing.T) {
	all := shapes()
	pieces := []string{"add", "u", "lw", "j", "jal", "eret", "sll", " ", " ", "$", "$", ",", ",", "(", ")", "0", "1", "31", "32", "-", "-4", "65535", "$2", "$29", ",$3", "($3)", "\x00", "\xff", "\n"}
	r := rand.New(rand.NewSource(5))
	for range 200000 {
		var s string
		for range r.Intn(8) {
			s += pieces[r.Intn(len(pieces))]
		}
		want, wantErr := sought(all, s)
		if i, e := Parse(s); i != want || e != wantErr {
			t.Fatalf("Parse(%q) = %+v, %v; want %+v, %v", s, i, e, want, wantErr)
		}
	}
}

// P5.2: the words of lines, in order, with and without a byte 10 behind the last one.
func TestLines(t *testing.T) {
	for s, want := range map[string][]uint32{
		"":                                 nil,
		"syscall":                          {12},
		"syscall\n":                        {12},
		"sll $0,$0,0":                      {0},
		"sll $0,$0,0\nsyscall":             {0, 12},
		"syscall\nsll $0,$0,0\n":           {12, 0},
		"break\nbreak\nbreak\n":            {13, 13, 13},
		"addiu $2,$29,-4\njal 16\neret":    {0x27a2fffc, 0x0c000010, 0x42000018},
		"lw $8,-4($29)\naddu $2,$4,$5\n":   {0x8fa8fffc, 0x00851021},
		"j 67108863\nori $31,$31,65535":    {0x0bffffff, 0x37ffffff},
		"sw $31,-1($31)\nsll $31,$31,31\n": {0xafffffff, 0x001fffc0},
	} {
		if l, e := Lines(s); !slices.Equal(l, want) || e != api.OK {
			t.Errorf("Lines(%q) = %#x, %v; want %#x", s, l, e, want)
		}
	}
}

// P5.2: a line for each instruction; its words are those that decode tells.
func TestLinesOfAll(t *testing.T) {
	for _, s := range []string{told, strings.TrimSuffix(told, "\n")} {
		l, e := Lines(s)
		if len(l) != api.Ops || e != api.OK {
			t.Fatalf("%d words, %v", len(l), e)
		}
		for op, w := range l {
			if i, e := decode.Decode(w); i.Op != op || wanted(i) != toldOps()[op] || e != api.OK {
				t.Errorf("%s: %#x is %+v, %v", toldOps()[op], w, i, e)
			}
		}
	}
}

// P5.2: empty lines, and lines that are none among lines that are.
func TestLinesRefuse(t *testing.T) {
	for _, s := range []string{
		"\n", "\n\n", "\nsyscall", "\nsyscall\n", "syscall\n\n", "syscall\n\nsyscall", "syscall\n\nsyscall\n",
		"x", "x\n", "syscall\nx", "x\nsyscall", "syscall\nx\nsyscall", "syscall\nx\nsyscall\n", "syscall\n ", " \nsyscall", "syscall\n\x00", "\x00", "\xff\n",
		"syscall\r\nsyscall\r\n", "syscall\rsyscall", "syscall;syscall", "syscall syscall", "syscall\x00syscall", "syscall\u2028syscall", "syscall\vsyscall", "syscall\u0085",
		"addu $2,\n$4,$5", "addu\n$2,$4,$5", "lw $8,-4\n($29)", "syscall # call\n", "jal 67108864\n", "syscall\naddu $32,$0,$0\n",
		told + "\n", told + "x", "\n" + told, told + told + "add $1,$2\n" + told,
	} {
		if l, e := Lines(s); len(l) != 0 || e != api.ErrAsmText {
			t.Errorf("Lines(%q) = %#x, %v; want ErrAsmText", s, l, e)
		}
	}
}

// P5.2: lists that are answered share no memory.
func TestLinesAreNew(t *testing.T) {
	first, _ := Lines("syscall\nbreak")
	first[0] = 7
	_ = append(first[:1], 8, 9, 10)
	if second, _ := Lines("syscall\nbreak"); !slices.Equal(second, []uint32{12, 13}) {
		t.Errorf("%v", second)
	}
}

// P5.3: what is printed is parsed as it was, and the other way round.
func TestPrintedAndParsed(t *testing.T) {
	r := rand.New(rand.NewSource(53))
	seen := map[string]api.Instr{}
	for op := range api.Ops {
		for range 500 {
			i := some(r, op)
			s := wanted(i)
			both(t, i, s)
			if other, ok := seen[s]; ok && other != i {
				t.Errorf("%q is the text of %+v and %+v", s, i, other)
			}
			seen[s] = i
		}
	}
}

// P5.3: words that are instructions, printed and parsed again, are these words; and so is a text of many.
func TestWordsAgain(t *testing.T) {
	r := rand.New(rand.NewSource(35))
	var words []uint32
	var text strings.Builder
	for len(words) < 5000 {
		i := some(r, r.Intn(api.Ops))
		if w := r.Uint32(); len(words)%2 == 0 {
			var e api.Errno
			if i, e = decode.Decode(w); e != api.OK {
				continue
			}
		}
		w, e := decode.Encode(i)
		if e != api.OK {
			t.Fatalf("%+v: %v", i, e)
		}
		s, e := Print(i)
		if l, e2 := Lines(s); !slices.Equal(l, []uint32{w}) || e != api.OK || e2 != api.OK {
			t.Fatalf("%#x is %q, and that %#x, %v, %v", w, s, l, e, e2)
		}
		words = append(words, w)
		text.WriteString(s + "\n")
	}
	if l, e := Lines(text.String()); !slices.Equal(l, words) || e != api.OK {
		t.Errorf("%d words, %v", len(l), e)
	}
}

// R1: long texts end soon, whatever they are.
func TestLongTexts(t *testing.T) {
	for _, s := range []string{strings.Repeat("a", 1<<20), strings.Repeat(" ", 1<<20), "lw $" + strings.Repeat("-", 1<<20), "j " + strings.Repeat("0", 1<<20), "eret" + strings.Repeat(" ", 1<<20)} {
		refused(t, s)
	}
	many := strings.Repeat("syscall\n", 1<<16)
	if l, e := Lines(many); len(l) != 1<<16 || e != api.OK {
		t.Errorf("%d words, %v", len(l), e)
	}
}
