package decode

import (
	"math"
	"math/rand"
	"strconv"
	"strings"
	"testing"

	"zoetrope/api"
)

// told is the document's table of instructions, so that the tests share none of the package's.
const told = `
sll SH 0 0
srl SH 0 2
sra SH 0 3
sllv SV 0 4
srlv SV 0 6
srav SV 0 7
jr JR 0 8
jalr JALR 0 9
movz R 0 10
movn R 0 11
syscall N 0 12
break N 0 13
mfhi MF 0 16
mthi MT 0 17
mflo MF 0 18
mtlo MT 0 19
mult MD 0 24
multu MD 0 25
div MD 0 26
divu MD 0 27
add R 0 32
addu R 0 33
sub R 0 34
subu R 0 35
and R 0 36
or R 0 37
xor R 0 38
nor R 0 39
slt R 0 42
sltu R 0 43
teq MD 0 52
tne MD 0 54
mul R 28 2
clz CL 28 32
clo CL 28 33
bltz BZ 1 0
bgez BZ 1 1
bltzal BZ 1 16
bgezal BZ 1 17
j J 2 0
jal J 3 0
beq B2 4 0
bne B2 5 0
blez BZ 6 0
bgtz BZ 7 0
addi I 8 0
addiu I 9 0
slti I 10 0
sltiu I 11 0
andi IU 12 0
ori IU 13 0
xori IU 14 0
lui LUI 15 0
mfc0 C0 16 0
mtc0 C0 16 4
tlbr CO 16 1
tlbwi CO 16 2
tlbp CO 16 8
eret CO 16 24
lb M 32 0
lh M 33 0
lw M 35 0
lbu M 36 0
lhu M 37 0
sb M 40 0
sh M 41 0
sw M 43 0
ll M 48 0
sc M 56 0
`

// pictures draws each form's word, the highest bit first: M major, n minor, s rs, t rt, d rd, a sa, i imm.
var pictures = map[string]string{
	"SH":   "MMMMMM00000tttttdddddaaaaannnnnn",
	"SV":   "MMMMMMssssstttttddddd00000nnnnnn",
	"JR":   "MMMMMMsssss000000000000000nnnnnn",
	"JALR": "MMMMMMsssss00000ddddd00000nnnnnn",
	"R":    "MMMMMMssssstttttddddd00000nnnnnn",
	"N":    "MMMMMM00000000000000000000nnnnnn",
	"MF":   "MMMMMM0000000000ddddd00000nnnnnn",
	"MT":   "MMMMMMsssss000000000000000nnnnnn",
	"MD":   "MMMMMMsssssttttt0000000000nnnnnn",
	"CL":   "MMMMMMsssssdddddddddd00000nnnnnn",
	"BZ":   "MMMMMMsssssnnnnniiiiiiiiiiiiiiii",
	"J":    "MMMMMMiiiiiiiiiiiiiiiiiiiiiiiiii",
	"B2":   "MMMMMMssssstttttiiiiiiiiiiiiiiii",
	"I":    "MMMMMMssssstttttiiiiiiiiiiiiiiii",
	"IU":   "MMMMMMssssstttttiiiiiiiiiiiiiiii",
	"LUI":  "MMMMMM00000tttttiiiiiiiiiiiiiiii",
	"C0":   "MMMMMMnnnnntttttddddd00000000000",
	"CO":   "MMMMMM10000000000000000000nnnnnn",
	"M":    "MMMMMMssssstttttiiiiiiiiiiiiiiii",
}

type line struct {
	name, form   string
	major, minor int
	picture      string
}

func number10(t testing.TB, s string) int {
	n, err := strconv.Atoi(s)
	if err != nil {
		t.Fatal(err)
	}
	return n
}

func lines(t testing.TB) []line {
	var all []line
	for _, s := range strings.Split(strings.TrimSpace(told), "\n") {
		f := strings.Fields(s)
		all = append(all, line{f[0], f[1], number10(t, f[2]), number10(t, f[3]), pictures[f[1]]})
	}
	if len(all) != api.Ops {
		t.Fatal(len(all), "instructions")
	}
	return all
}

// bounds tells the least and the greatest of a field that the form has.
func (l line) bounds(letter byte) (least, most int) {
	switch {
	case letter != 'i':
		return 0, 31
	case l.form == "J":
		return 0, 67108863
	case l.form == "IU" || l.form == "LUI":
		return 0, 65535
	}
	return -32768, 32767
}

func (l line) has(letter byte) bool { return strings.IndexByte(l.picture, letter) >= 0 }

const letters = "stdai"

func field(i *api.Instr, letter byte) *int {
	switch letter {
	case 's':
		return &i.Rs
	case 't':
		return &i.Rt
	case 'd':
		return &i.Rd
	case 'a':
		return &i.Sa
	}
	return &i.Imm
}

// written is the word that the picture draws with the instruction's fields, each digit of them put in from behind.
func (l line) written(i api.Instr) uint32 {
	var digits [128]string
	digits['M'], digits['n'] = binary(l.major, 6), binary(l.minor, strings.Count(l.picture, "n"))
	for _, letter := range []byte(letters) {
		width := min(strings.Count(l.picture, string(letter)), 26)
		if letter == 'd' && width == 10 {
			width = 5
		}
		digits[letter] = binary(*field(&i, letter), width)
	}
	var out []byte
	var seen [128]int
	for k := range 32 {
		letter := l.picture[k]
		if letter == '0' || letter == '1' {
			out = append(out, letter)
			continue
		}
		d := digits[letter]
		out = append(out, d[seen[letter]%len(d)])
		seen[letter]++
	}
	w, _ := strconv.ParseUint(string(out), 2, 32)
	return uint32(w)
}

func binary(n, width int) string {
	var out []byte
	for k := width - 1; k >= 0; k-- {
		out = append(out, byte('0'+n>>k&1))
	}
	return string(out)
}

// read is what the word tells, if the picture fits it.
func (l line) read(op int, w uint32) (api.Instr, bool) {
	i := api.Instr{Op: op}
	for _, letter := range []byte(letters) {
		n, width := 0, 0
		for k := range 32 {
			if l.picture[k] == letter {
				n, width = n*2+int(w>>(31-k)&1), width+1
			}
		}
		if width == 10 { // rd twice: the one behind
			n %= 32
		}
		if least, most := l.bounds(letter); width == 16 && least < 0 && n > most {
			n -= 65536
		}
		*field(&i, letter) = n
	}
	return i, l.written(i) == w
}

func wantDecode(all []line, w uint32) (api.Instr, api.Errno) {
	for op, l := range all {
		if int(w>>26) != l.major {
			continue
		}
		if i, ok := l.read(op, w); ok {
			return i, api.OK
		}
	}
	return api.Instr{}, api.ErrDecodeNone
}

func wantEncode(all []line, i api.Instr) (uint32, api.Errno) {
	if i.Op < 0 || i.Op >= len(all) {
		return 0, api.ErrDecodeNone
	}
	l := all[i.Op]
	for _, letter := range []byte(letters) {
		least, most := l.bounds(letter)
		if !l.has(letter) {
			least, most = 0, 0
		}
		if n := *field(&i, letter); n < least || n > most {
			return 0, api.ErrDecodeNone
		}
	}
	return l.written(i), api.OK
}

func sameDecode(t *testing.T, all []line, w uint32) {
	t.Helper()
	i, e := Decode(w)
	if want, err := wantDecode(all, w); i != want || e != err {
		t.Fatalf("Decode(%#08x): %+v, %d, not %+v, %d", w, i, e, want, err)
	}
}

func sameEncode(t *testing.T, all []line, i api.Instr) {
	t.Helper()
	w, e := Encode(i)
	if want, err := wantEncode(all, i); w != want || e != err {
		t.Fatalf("Encode(%+v): %#08x, %d, not %#08x, %d", i, w, e, want, err)
	}
}

// edgy are instructions of the line, each field at its edges, and between.
func (l line) edgy(op int) []api.Instr {
	rows := []api.Instr{{Op: op}}
	for _, letter := range []byte(letters) {
		if !l.has(letter) {
			continue
		}
		least, most := l.bounds(letter)
		values := []int{0, 1, most / 2, most - 1, most}
		if least < 0 {
			values = append(values, least, least+1, -2, -1)
		}
		var more []api.Instr
		for _, i := range rows {
			for _, n := range values {
				*field(&i, letter) = n
				more = append(more, i)
			}
		}
		rows = more
	}
	return rows
}

func (l line) random(op int, chance *rand.Rand) api.Instr {
	i := api.Instr{Op: op}
	for _, letter := range []byte(letters) {
		if l.has(letter) {
			least, most := l.bounds(letter)
			*field(&i, letter) = least + chance.Intn(most-least+1)
		}
	}
	return i
}

// P4.1
func TestExamples(t *testing.T) {
	if i, e := Decode(0); i != (api.Instr{Op: api.OpSll}) || e != api.OK {
		t.Error(i, e)
	}
	stack := api.Instr{Op: api.OpAddiu, Rt: 2, Rs: 29, Imm: -4}
	if w, e := Encode(stack); w != 0x27a2fffc || e != api.OK {
		t.Error(w, e)
	}
	if i, e := Decode(0x27a2fffc); i != stack || e != api.OK {
		t.Error(i, e)
	}
	if i, e := Decode(0xffffffff); i != (api.Instr{}) || e != api.ErrDecodeNone {
		t.Error(i, e)
	}
}

// P4.1: words reckoned by hand, one of each form.
func TestWordOfEachForm(t *testing.T) {
	for w, want := range map[uint32]api.Instr{
		0x001f07c3: {Op: api.OpSra, Rt: 31, Sa: 31},
		0x03e10004: {Op: api.OpSllv, Rs: 31, Rt: 1},
		0x03e00008: {Op: api.OpJr, Rs: 31},
		0x0320f809: {Op: api.OpJalr, Rs: 25, Rd: 31},
		0x00851021: {Op: api.OpAddu, Rs: 4, Rt: 5, Rd: 2},
		0x0000000d: {Op: api.OpBreak},
		0x0000f812: {Op: api.OpMflo, Rd: 31},
		0x00200011: {Op: api.OpMthi, Rs: 1},
		0x00220036: {Op: api.OpTne, Rs: 1, Rt: 2},
		0x70831802: {Op: api.OpMul, Rs: 4, Rt: 3, Rd: 3},
		0x73e10821: {Op: api.OpClo, Rs: 31, Rd: 1},
		0x07f18000: {Op: api.OpBgezal, Rs: 31, Imm: -32768},
		0x1c207fff: {Op: api.OpBgtz, Rs: 1, Imm: 32767},
		0x0bffffff: {Op: api.OpJ, Imm: 67108863},
		0x1440ffff: {Op: api.OpBne, Rs: 2, Imm: -1},
		0x2fff8000: {Op: api.OpSltiu, Rs: 31, Rt: 31, Imm: -32768},
		0x3420ffff: {Op: api.OpOri, Rs: 1, Imm: 65535},
		0x3c1fffff: {Op: api.OpLui, Rt: 31, Imm: 65535},
		0x401f0800: {Op: api.OpMfc0, Rt: 31, Rd: 1},
		0x4081f800: {Op: api.OpMtc0, Rt: 1, Rd: 31},
		0x42000018: {Op: api.OpEret},
		0xe3a1fffc: {Op: api.OpSc, Rs: 29, Rt: 1, Imm: -4},
	} {
		if i, e := Decode(w); i != want || e != api.OK {
			t.Errorf("%#08x: %+v, %d", w, i, e)
		}
		if v, e := Encode(want); v != w || e != api.OK {
			t.Errorf("%+v: %#08x, %d", want, v, e)
		}
	}
}

// P4.1, P4.3
func TestEachInstructionAtItsEdges(t *testing.T) {
	all := lines(t)
	for op, l := range all {
		for _, i := range l.edgy(op) {
			w := l.written(i)
			if v, e := Encode(i); v != w || e != api.OK {
				t.Fatalf("Encode(%+v): %#08x, %d, not %#08x", i, v, e, w)
			}
			if j, e := Decode(w); j != i || e != api.OK {
				t.Fatalf("Decode(%#08x): %+v, %d, not %+v", w, j, e, i)
			}
		}
	}
}

// P4.1: a bit beside an instruction's word may make it another one, or none.
func TestTurnedBits(t *testing.T) {
	all := lines(t)
	chance := rand.New(rand.NewSource(4))
	for op, l := range all {
		for _, i := range []api.Instr{{Op: op}, l.random(op, chance), l.random(op, chance)} {
			w := l.written(i)
			for a := range 32 {
				sameDecode(t, all, w^1<<a)
				for b := range a {
					sameDecode(t, all, w^1<<a^1<<b)
				}
			}
		}
	}
}

// P4.1: each major with each minor, and numbers where rs and rt tell one.
func TestMajorsAndMinors(t *testing.T) {
	all := lines(t)
	for major := range uint32(64) {
		for minor := range uint32(64) {
			w := major<<26 | minor
			sameDecode(t, all, w)
			for _, five := range []uint32{1, 2, 4, 5, 15, 16, 17, 18, 20, 31} {
				sameDecode(t, all, w|five<<21)
				sameDecode(t, all, w|five<<16)
			}
		}
	}
}

// P4.1: rt must be rd again.
func TestRdAgain(t *testing.T) {
	for _, op := range []int{api.OpClz, api.OpClo} {
		for rd := range uint32(32) {
			for rt := range uint32(32) {
				w := 28<<26 | 7<<21 | rt<<16 | rd<<11 | uint32(32+op-api.OpClz)
				want, err := api.Instr{}, api.ErrDecodeNone
				if rt == rd {
					want, err = api.Instr{Op: op, Rs: 7, Rd: int(rd)}, api.OK
				}
				if i, e := Decode(w); i != want || e != err {
					t.Fatalf("%#08x: %+v, %d", w, i, e)
				}
			}
		}
	}
}

// P4.1: words that are none, each for another reason.
func TestWordsThatAreNone(t *testing.T) {
	for _, w := range []uint32{
		0x00200000,             // sll: rs
		0x00000044,             // sllv: sa
		0x03e10008, 0x03e00808, // jr: rt, rd
		0x03e00048,             // jr: sa
		0x03e1f809, 0x03e0f849, // jalr: rt, sa
		0x00851061,                                     // addu: sa
		0x0020000c, 0x0001000c, 0x0000080c, 0x0000004c, // syscall
		0x00201010, 0x00011010, 0x00001050, // mfhi
		0x00210011, 0x00200811, 0x00200051, // mthi
		0x00220836, 0x00220076, // tne
		0x70831842,             // mul: sa
		0x70421060, 0x70431020, // clz: sa, rt
		0x04020000, 0x04120000, // bltz and bltzal have 0 and 16 in rt
		0x18010000, 0x1c010000, // blez, bgtz: rt
		0x3c200000,             // lui: rs
		0x40080001, 0x400807ff, // mfc0: the low bits
		0x40200000,             // major 16 with a number that is none
		0x40000018, 0x41000018, // eret without 16 in rs
		0x42010018, 0x42000818, 0x42000058, // eret: rt, rd, sa
		0x42000000, 0x42000003, // CO with numbers that are none
		0x00000001, 0x00000005, 0x0000000e, 0x0000003f, // minors that are none
		0x70000000, 0x70000022, // of the major 28
		0x44000000, 0x88000000, 0xfc000000, // majors that are none
		0xffffffff,
	} {
		if i, e := Decode(w); i != (api.Instr{}) || e != api.ErrDecodeNone {
			t.Errorf("%#08x: %+v, %d", w, i, e)
		}
	}
}

// P4.1: fields beyond their bounds, and fields that the form has not.
func TestEncodeRefuses(t *testing.T) {
	all := lines(t)
	beyond := []int{
		-1, 1, 31, 32, 33, 63, 64, 65, -32, -31, 1 << 32, 1<<32 + 1, -1 << 32,
		-32769, -32768, 32767, 32768, 65535, 65536, 65537, -65536, 67108863, 67108864, 67108865,
		math.MaxInt, math.MinInt, math.MaxInt32, math.MinInt32, math.MaxUint32,
	}
	chance := rand.New(rand.NewSource(5))
	refused := 0
	for op, l := range all {
		for _, first := range []api.Instr{{Op: op}, l.random(op, chance)} {
			for _, letter := range []byte(letters) {
				for _, n := range beyond {
					i := first
					*field(&i, letter) = n
					sameEncode(t, all, i)
					if _, e := Encode(i); e != api.OK {
						refused++
					}
				}
			}
		}
	}
	if refused < len(all)*len(beyond) {
		t.Error("hardly any was refused:", refused)
	}
}

// P4.1
func TestEncodeOfNoOp(t *testing.T) {
	for _, op := range []int{-1, api.Ops, api.Ops + 1, -api.Ops, math.MaxInt, math.MinInt, 1 << 32} {
		for _, i := range []api.Instr{{Op: op}, {Op: op, Rs: 1, Rt: 2, Imm: 3}} {
			if w, e := Encode(i); w != 0 || e != api.ErrDecodeNone {
				t.Errorf("%+v: %#08x, %d", i, w, e)
			}
		}
	}
}

// P4.2
func TestNameAndForm(t *testing.T) {
	for op, l := range lines(t) {
		if Name(op) != l.name || Form(op) != l.form {
			t.Error(op, Name(op), Form(op), l)
		}
	}
	for _, op := range []int{-1, api.Ops, api.Ops + 1, math.MaxInt, math.MinInt} {
		if Name(op) != "" || Form(op) != "" {
			t.Error(op, Name(op), Form(op))
		}
	}
}

// P4.2
func TestBranch(t *testing.T) {
	branches := " jr jalr bltz bgez bltzal bgezal j jal beq bne blez bgtz "
	for op, l := range lines(t) {
		if Branch(op) != strings.Contains(branches, " "+l.name+" ") {
			t.Error(l.name, Branch(op))
		}
	}
	for _, op := range []int{-1, api.Ops, api.Ops + 1, math.MaxInt, math.MinInt} {
		if Branch(op) {
			t.Error(op)
		}
	}
}

// P4.3
func TestThereAndBack(t *testing.T) {
	all := lines(t)
	chance := rand.New(rand.NewSource(6))
	words := map[uint32]api.Instr{}
	for op, l := range all {
		for range 500 {
			i := l.random(op, chance)
			w, e := Encode(i)
			if e != api.OK {
				t.Fatalf("%+v: %d", i, e)
			}
			if j, e := Decode(w); j != i || e != api.OK {
				t.Fatalf("%+v: %#08x: %+v, %d", i, w, j, e)
			}
			if other, ok := words[w]; ok && other != i {
				t.Fatalf("%#08x is the word of %+v and of %+v", w, other, i)
			}
			words[w] = i
		}
	}
}

// P4.3, and P4.1 at words of all kinds.
func TestBackAndThere(t *testing.T) {
	all := lines(t)
	chance := rand.New(rand.NewSource(7))
	found := 0
	for range 50000 {
		w := chance.Uint32()
		sameDecode(t, all, w)
		i, e := Decode(w)
		if e != api.OK {
			continue
		}
		found++
		if v, e := Encode(i); v != w || e != api.OK {
			t.Fatalf("%#08x: %+v: %#08x, %d", w, i, v, e)
		}
	}
	if found < 1000 {
		t.Error("hardly any word was an instruction:", found)
	}
}
