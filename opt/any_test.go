package opt

import (
	"fmt"
	"math"
	"math/rand"
	"slices"
	"testing"

	"zoetrope/api"
	"zoetrope/ir"
)

// holdModels holds each pass, and All of all flags, against the models.
func holdModels(t *testing.T, l []api.Micro) {
	t.Helper()
	same := func(what any, got, want []api.Micro) {
		if !slices.Equal(got, want) {
			t.Fatalf("%+v of %+v\nmade %+v\nwanted %+v", what, l, got, want)
		}
	}
	same("Copy", Copy(l), copyModel(l))
	same("Fold", Fold(l), foldModel(l))
	same("Dead", Dead(l), deadModel(l))
	for f, passes := range flagged() {
		made := l
		for _, pass := range passes {
			made = pass(made)
		}
		same(f, All(l, f), allModel(l, f))
		same(f, All(l, f), made)
	}
}

// holdFollows holds P15.5: the same registers behind it, it may be, it is no longer; and nothing is another one that was handed in.
func holdFollows(t *testing.T, l []api.Micro, registers ...[32]uint32) {
	t.Helper()
	was := slices.Clone(l)
	for n := range 8 {
		f := api.Flags{Copy: n&1 != 0, Fold: n&2 != 0, Dead: n&4 != 0}
		made := All(l, f)
		if !ir.May(made) || len(made) > len(l) {
			t.Fatalf("%+v of %+v: %+v may not be", f, l, made)
		}
		for _, r := range registers {
			if got, want := ir.Run(made, r), ir.Run(l, r); got != want {
				t.Fatalf("%+v of %+v: %+v makes of\n%x\n%x, wanted\n%x", f, l, made, r, got, want)
			}
		}
	}
	if !slices.Equal(l, was) {
		t.Fatalf("%+v, handed in %+v", l, was)
	}
}

// fewOps are operations of few registers, that are tried in all rows.
func fewOps() []api.Micro {
	all := ops(api.Micro{})
	operands := []int{0, 1, 2, 32}
	for dst := 1; dst <= 2; dst++ {
		all = append(all, set(dst, 0), set(dst, 5))
		for _, a := range operands {
			all = append(all, move(dst, a))
			for _, b := range operands {
				all = append(all, add(dst, a, b), sub(dst, a, b))
			}
		}
	}
	return all
}

// P15.1 to P15.5: all rows of up to three of few operations.
func TestAllRows(t *testing.T) {
	few := fewOps()
	r := [32]uint32{1: 7, 2: 1 << 31}
	hold := func(l ...api.Micro) {
		if !slices.Equal(Copy(l), copyModel(l)) || !slices.Equal(Fold(l), foldModel(l)) || !slices.Equal(Dead(l), deadModel(l)) {
			holdModels(t, l)
		}
		if all := All(l, api.Flags{Copy: true, Fold: true, Dead: true}); ir.Run(all, r) != ir.Run(l, r) {
			holdFollows(t, l, r)
		}
	}
	for _, x := range few {
		holdModels(t, ops(x))
		holdFollows(t, ops(x), r)
		for _, y := range few {
			holdModels(t, ops(x, y))
			holdFollows(t, ops(x, y), r)
			for _, z := range few {
				hold(x, y, z)
			}
		}
	}
}

// anyNumber is any word, more often one at which something turns, most often 0.
func anyNumber(r *rand.Rand) uint32 {
	edges := []uint32{0, 0, 0, 1, 2, 31, 32, 33, 1<<31 - 1, 1 << 31, top - 1, top}
	if r.Intn(3) > 0 {
		return edges[r.Intn(len(edges))]
	}
	return r.Uint32() >> r.Intn(33)
}

func anyRegisters(r *rand.Rand) [32]uint32 {
	var all [32]uint32
	for n := range all {
		all[n] = anyNumber(r)
	}
	return all
}

// anyOp is an operation that may be, of registers up to last.
func anyOp(r *rand.Rand, last int) api.Micro {
	operand := func() int {
		if r.Intn(5) == 0 {
			return 32
		}
		return r.Intn(last + 1)
	}
	m := api.Micro{Kind: r.Intn(api.Micros)}
	if r.Intn(2) == 0 {
		m.Kind = r.Intn(api.MicroSub + 1)
	}
	if m.Kind != api.MicroNone {
		m.Dst = 1 + r.Intn(last)
	}
	if m.Kind >= api.MicroMove {
		m.A = operand()
	}
	if m.Kind > api.MicroMove {
		m.B = operand()
	}
	if m.Kind == api.MicroSet || m.A == 32 || m.B == 32 {
		m.Imm = anyNumber(r)
	}
	return m
}

// anyOps are operations that may be; mostly of few registers, so that one reads what another one wrote.
func anyOps(r *rand.Rand) []api.Micro {
	l := make([]api.Micro, r.Intn(api.MaxBlock+1))
	count, last := 0, []int{2, 4, 6, 31}[r.Intn(4)]
	for n := range l {
		count = min(api.MaxBlock, count+r.Intn(3))
		l[n] = at(anyOp(r, last), count)
	}
	return l
}

// P15.1 to P15.5: any operations that may be, of any registers, also with R[0] that is not 0.
func TestAny(t *testing.T) {
	r := rand.New(rand.NewSource(151))
	var lengths [api.MaxBlock + 1]int
	for range 10000 {
		l := anyOps(r)
		if !ir.May(l) {
			t.Fatalf("%+v", l)
		}
		lengths[len(l)]++
		holdModels(t, l)
		holdFollows(t, l, anyRegisters(r), anyRegisters(r))
	}
	if n := slices.Index(lengths[:], 0); n >= 0 {
		t.Error("none of", n)
	}
}

// anyWord is a word of a plain instruction, of few registers.
func anyWord(r *rand.Rand) uint32 {
	register := func() uint32 { return uint32(r.Intn(5)) }
	if r.Intn(2) == 0 {
		functions := []uint32{0, 2, 3, 4, 6, 7, 33, 35, 36, 37, 38, 39, 42, 43}
		w := register()<<16 | register()<<11 | functions[r.Intn(len(functions))]
		if w%64 <= 3 {
			return w | uint32(r.Intn(32))<<6
		}
		return w | register()<<21
	}
	w := uint32(9+r.Intn(7))<<26 | register()<<16 | uint32(r.Intn(3))*0x7fff
	if w>>26 == 15 {
		return w
	}
	return w | register()<<21
}

// P15.5: what Translate tells, of any plain instructions.
func TestTranslated(t *testing.T) {
	r := rand.New(rand.NewSource(152))
	for range 5000 {
		words := make([]uint32, 1+r.Intn(16))
		for n := range words {
			words[n] = anyWord(r)
		}
		l := ir.Translate(words)
		if len(l) != len(words) {
			t.Fatalf("%#x: %d are plain", words, len(l))
		}
		holdModels(t, l)
		holdFollows(t, l, anyRegisters(r), anyRegisters(r))
	}
}

// calls are the passes, and All with each of the flags, by their names.
func calls() map[string]func([]api.Micro) []api.Micro {
	all := map[string]func([]api.Micro) []api.Micro{"Copy": Copy, "Fold": Fold, "Dead": Dead}
	for f := range flagged() {
		all[fmt.Sprintf("All %+v", f)] = func(l []api.Micro) []api.Micro { return All(l, f) }
	}
	return all
}

// R4, R5: what is told is its owner's, spare room too: a change of it changes neither what was handed in, nor the room behind that, nor what is told later.
func TestOwner(t *testing.T) {
	r := rand.New(rand.NewSource(153))
	for range 500 {
		room := append(anyOps(r), set(9, 99), add(9, 9, 9))
		was := slices.Clone(room)
		l := room[:len(room)-2]
		for name, call := range calls() {
			first := call(l)
			held := slices.Clone(first)
			second := call(l)
			if !slices.Equal(first, second) {
				t.Fatalf("%s of %+v: two answers", name, l)
			}
			all := first[:cap(first)]
			for n := range all {
				all[n] = api.Micro{Kind: -7, Dst: -7, A: -7, B: -7, Imm: 7, Count: -7}
			}
			if !slices.Equal(room, was) {
				t.Fatalf("%s: handed in %+v, now %+v", name, was, room)
			}
			if !slices.Equal(second, held) || !slices.Equal(call(l), held) {
				t.Fatalf("%s of %+v: told %+v, then another one", name, l, held)
			}
		}
	}
}

// R3: of nothing nothing is made, of a nil list and of an empty one.
func TestNothing(t *testing.T) {
	for name, call := range calls() {
		if len(call(nil)) != 0 || len(call([]api.Micro{})) != 0 {
			t.Error(name)
		}
	}
}

// anyInt is a number at or beyond the edges of all fields.
func anyInt(r *rand.Rand) int {
	l := []int{math.MinInt, math.MinInt + 1, -1 << 32, -33, -32, -1, 0, 1, 2, 3, 13, 14, 15, 16, 17, 31, 32, 33, 63, 64, 1 << 31, 1 << 32, 1<<32 + 1, math.MaxInt}
	return l[r.Intn(len(l))]
}

// R1, R4: any operations, also such as may not be, and any number of them: calls end, and nothing that was handed in is another one.
func TestBeyond(t *testing.T) {
	r := rand.New(rand.NewSource(154))
	for range 5000 {
		l := make([]api.Micro, r.Intn(40))
		for n := range l {
			l[n] = at(anyOp(r, 31), r.Intn(20)-1)
			for range r.Intn(3) {
				*[]*int{&l[n].Kind, &l[n].Dst, &l[n].A, &l[n].B, &l[n].Count}[r.Intn(5)] = anyInt(r)
			}
		}
		was := slices.Clone(l)
		for name, call := range calls() {
			if first := call(l); !slices.Equal(first, call(l)) || !slices.Equal(l, was) {
				t.Fatalf("%s of %+v, handed in %+v", name, l, was)
			}
		}
	}
}

// R1: a row that is far too long ends, too.
func TestLong(t *testing.T) {
	l := make([]api.Micro, 1<<18)
	for n := range l {
		l[n] = set(1+n%31, uint32(n))
	}
	for name, call := range calls() {
		if made := call(l); len(made) > len(l) || len(made) < 31 {
			t.Error(name, len(made))
		}
	}
}
