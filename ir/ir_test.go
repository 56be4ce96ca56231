package ir

import (
	"fmt"
	"math"
	"math/big"
	"math/rand"
	"slices"
	"testing"

	"zoetrope/api"
)

const (
	most  = 1<<31 - 1 // the greatest number with a sign
	least = 1 << 31   // the least one
	top   = 1<<32 - 1
)

// regs are registers by their numbers.
type regs map[int]uint32

// with are registers with these, and something in all others, so that a change of them is seen.
func with(some regs) [32]uint32 {
	var r [32]uint32
	for n := range r {
		r[n] = uint32(n) * 0x01010101
	}
	return changed(r, some)
}

func changed(r [32]uint32, some regs) [32]uint32 {
	for n, v := range some {
		r[n] = v
	}
	return r
}

// mayOne asks of one operation what the chapter says, sentence by sentence.
func mayOne(m api.Micro) bool {
	none, set, move := m.Kind == 0, m.Kind == 1, m.Kind == 2
	from := func(n, low, high int) bool { return low <= n && n <= high }
	if !from(m.Kind, 0, 13) || none && m.Dst != 0 || !none && !from(m.Dst, 1, 31) {
		return false
	}
	if (none || set) && (m.A != 0 || m.B != 0) || move && m.B != 0 {
		return false
	}
	if !from(m.A, 0, 32) || !from(m.B, 0, 32) || !from(m.Count, 0, 16) {
		return false
	}
	return m.Imm == 0 || set || m.A == 32 || m.B == 32
}

// P14.2: all edges of one operation together.
func TestMayEdges(t *testing.T) {
	numbers := []int{math.MinInt, -1, 0, 1, 31, 32, 33, math.MaxInt}
	kinds := []int{math.MinInt, -14, -1, 14, 15, math.MaxInt}
	for n := range 14 {
		kinds = append(kinds, n)
	}
	yes := 0
	for _, kind := range kinds {
		for _, dst := range numbers {
			for _, a := range numbers {
				for _, b := range numbers {
					for _, imm := range []uint32{0, 1, 32, top} {
						for _, count := range []int{-1, 0, 1, 16, 17} {
							m := api.Micro{Kind: kind, Dst: dst, A: a, B: b, Imm: imm, Count: count}
							if May([]api.Micro{m}) != mayOne(m) {
								t.Fatalf("%+v: %v", m, !mayOne(m))
							}
							if mayOne(m) {
								yes++
							}
						}
					}
				}
			}
		}
	}
	if yes == 0 {
		t.Error("none may be")
	}
}

// P14.2: operations told one by one.
func TestMayTold(t *testing.T) {
	for i, x := range []struct {
		m  api.Micro
		ok bool
	}{
		{api.Micro{}, true}, {api.Micro{Count: 16}, true}, {api.Micro{Count: 17}, false}, {api.Micro{Count: -1}, false},
		{api.Micro{Dst: 1}, false}, {api.Micro{A: 1}, false}, {api.Micro{B: 1}, false}, {api.Micro{A: 32}, false}, {api.Micro{B: 32, Imm: 1}, false}, {api.Micro{Imm: 1}, false},
		{api.Micro{Kind: -1}, false}, {api.Micro{Kind: -1, Dst: 1}, false}, {api.Micro{Kind: api.Micros, Dst: 1}, false}, {api.Micro{Kind: api.Micros}, false},
		{api.Micro{Kind: api.MicroArith, Dst: 1}, true}, {api.Micro{Kind: api.MicroArith, Dst: 31, A: 32, B: 32, Imm: 5}, true},
		{api.Micro{Kind: api.MicroSet, Dst: 1}, true}, {api.Micro{Kind: api.MicroSet, Dst: 31, Imm: top}, true}, {api.Micro{Kind: api.MicroSet, Imm: 5}, false},
		{api.Micro{Kind: api.MicroSet, Dst: 1, A: 1}, false}, {api.Micro{Kind: api.MicroSet, Dst: 1, B: 1}, false}, {api.Micro{Kind: api.MicroSet, Dst: 1, A: 32, Imm: 5}, false},
		{api.Micro{Kind: api.MicroSet, Dst: 32, Imm: 5}, false}, {api.Micro{Kind: api.MicroSet, Dst: -1, Imm: 5}, false},
		{api.Micro{Kind: api.MicroMove, Dst: 1, A: 31}, true}, {api.Micro{Kind: api.MicroMove, Dst: 1, A: 32, Imm: 5}, true}, {api.Micro{Kind: api.MicroMove, Dst: 1, A: 31, Imm: 5}, false},
		{api.Micro{Kind: api.MicroMove, Dst: 1, B: 1}, false}, {api.Micro{Kind: api.MicroMove, Dst: 1, B: 32, Imm: 5}, false}, {api.Micro{Kind: api.MicroMove, Dst: 1, A: 33}, false},
		{api.Micro{Kind: api.MicroMove, Dst: 1, A: -1}, false}, {api.Micro{Kind: api.MicroMove}, false},
		{api.Micro{Kind: api.MicroAdd, Dst: 0, A: 1, B: 2}, false}, {api.Micro{Kind: api.MicroAdd, Dst: 1, A: 0, B: 0}, true}, {api.Micro{Kind: api.MicroAdd, Dst: 31, A: 31, B: 31}, true},
		{api.Micro{Kind: api.MicroAdd, Dst: 32, A: 1, B: 2}, false}, {api.Micro{Kind: api.MicroAdd, Dst: -1, A: 1, B: 2}, false},
		{api.Micro{Kind: api.MicroAdd, Dst: 1, A: 1, B: 2, Imm: 1}, false}, {api.Micro{Kind: api.MicroAdd, Dst: 1, A: 32, B: 2, Imm: 1}, true},
		{api.Micro{Kind: api.MicroAdd, Dst: 1, A: 1, B: 32, Imm: 1}, true}, {api.Micro{Kind: api.MicroAdd, Dst: 1, A: 1, B: 32}, true}, {api.Micro{Kind: api.MicroAdd, Dst: 1, A: 32, B: 32}, true},
		{api.Micro{Kind: api.MicroAdd, Dst: 1, A: 33, B: 32, Imm: 1}, false}, {api.Micro{Kind: api.MicroAdd, Dst: 1, A: 32, B: 33, Imm: 1}, false}, {api.Micro{Kind: api.MicroAdd, Dst: 1, A: -1, B: 32}, false}, {api.Micro{Kind: api.MicroAdd, Dst: 1, B: -1}, false},
	} {
		if May([]api.Micro{x.m}) != x.ok || mayOne(x.m) != x.ok {
			t.Errorf("%d: %+v: %v", i, x.m, !x.ok)
		}
	}
}

// counts are operations with these Counts.
func counts(l ...int) []api.Micro {
	var ops []api.Micro
	for n, c := range l {
		ops = append(ops, api.Micro{Kind: api.MicroSet, Dst: n + 1, Imm: uint32(n + 1), Count: c})
	}
	return ops
}

// P14.2: operations one behind the other: no Count below the one ahead, at most sixteen, each may be.
func TestMayRow(t *testing.T) {
	for i, x := range []struct {
		l  []api.Micro
		ok bool
	}{
		{nil, true}, {[]api.Micro{}, true}, {counts(0, 0, 0), true}, {counts(0, 1, 2), true}, {counts(3, 3, 16, 16), true}, {counts(16), true},
		{counts(2, 1), false}, {counts(1, 0), false}, {counts(0, 16, 15), false}, {counts(1, 2, 3, 2, 4), false}, {counts(5, 5, 5, 4), false},
		{counts(-1, 0), false}, {counts(0, -1), false}, {counts(16, 17), false}, {counts(17, 17), false},
		{make([]api.Micro, 15), true}, {make([]api.Micro, 16), true}, {make([]api.Micro, 17), false}, {make([]api.Micro, 1000), false},
		{counts(1, 2, 3, 4, 5, 6, 7, 8, 9, 10, 11, 12, 13, 14, 15, 16), true}, {counts(1, 2, 3, 4, 5, 6, 7, 8, 9, 10, 11, 12, 13, 14, 15, 16, 16), false},
	} {
		if May(x.l) != x.ok {
			t.Errorf("%d: %+v", i, x.l)
		}
	}
	for n := range 16 {
		l := make([]api.Micro, 16)
		l[n].Imm = 1
		if May(l) {
			t.Error("a wrong one at", n)
		}
	}
}

// edges are the words at which a sign, a carry or a shift turns, with ordinary ones between.
func edges() []uint32 {
	l := []uint32{0, 1, 2, 3, 5, 30, 31, 32, 33, 63, 64, 100, 0x7fff, 0x8000, 0xffff, 0x10000, most - 1, most, least, least + 1, least + 31, 0x12345678, 0xdeadbeef, 0xaaaaaaaa, 0x55555555, 0xffff8000}
	return append(l, top-31, top-1, top)
}

// reckoned is what an operation of a kind writes, in numbers without bounds, so that it shares no arithmetic with the package.
func reckoned(kind int, a, b, imm uint32) uint32 {
	x, y := big.NewInt(int64(a)), big.NewInt(int64(b))
	signedX, signedY := big.NewInt(int64(int32(a))), big.NewInt(int64(int32(b)))
	all := big.NewInt(top)
	by := uint(b % 32)
	v := new(big.Int)
	switch kind {
	case api.MicroSet:
		v.SetUint64(uint64(imm))
	case api.MicroMove:
		v = x
	case api.MicroAdd:
		v.Add(x, y)
	case api.MicroSub:
		v.Sub(x, y)
	case api.MicroAnd:
		v.And(x, y)
	case api.MicroOr:
		v.Or(x, y)
	case api.MicroXor:
		v.Xor(x, y)
	case api.MicroNor:
		v.Sub(all, v.Or(x, y))
	case api.MicroLess:
		if signedX.Cmp(signedY) < 0 {
			v.SetInt64(1)
		}
	case api.MicroLessU:
		if x.Cmp(y) < 0 {
			v.SetInt64(1)
		}
	case api.MicroLeft:
		v.Lsh(x, by)
	case api.MicroRight:
		v.Rsh(x, by)
	case api.MicroArith:
		v.Rsh(signedX, by)
	}
	return uint32(v.Mod(v, big.NewInt(1<<32)).Uint64())
}

// valueOf is a kind with its numbers, and what it writes.
type valueOf struct {
	kind            int
	a, b, imm, want uint32
}

// valuesTold are told one by one; in imm stands a number that is not wanted, but of MicroSet.
var valuesTold = []valueOf{
	{api.MicroSet, 1, 2, 3, 3}, {api.MicroSet, 1, 2, top, top}, {api.MicroMove, 1, 2, 3, 1}, {api.MicroMove, top, 0, 3, top},
	{api.MicroAdd, 2, 3, 9, 5}, {api.MicroAdd, top, 2, 9, 1}, {api.MicroAdd, most, 1, 9, least}, {api.MicroAdd, least, least, 9, 0},
	{api.MicroSub, 5, 3, 9, 2}, {api.MicroSub, 3, 5, 9, top - 1}, {api.MicroSub, 0, least, 9, least}, {api.MicroSub, least, 1, 9, most},
	{api.MicroAnd, 0xff00ff00, 0x0ff00ff0, 9, 0x0f000f00}, {api.MicroOr, 0xff00ff00, 0x0ff00ff0, 9, 0xfff0fff0},
	{api.MicroXor, 0xff00ff00, 0x0ff00ff0, 9, 0xf0f0f0f0}, {api.MicroNor, 0xff00ff00, 0x0ff00ff0, 9, 0x000f000f}, {api.MicroNor, 0, 0, 9, top},
	{api.MicroLess, 3, 4, 9, 1}, {api.MicroLess, 4, 4, 9, 0}, {api.MicroLess, 5, 4, 9, 0}, {api.MicroLess, top, 0, 9, 1}, {api.MicroLess, 0, top, 9, 0}, {api.MicroLess, least, most, 9, 1},
	{api.MicroLessU, 3, 4, 9, 1}, {api.MicroLessU, 4, 4, 9, 0}, {api.MicroLessU, 5, 4, 9, 0}, {api.MicroLessU, top, 0, 9, 0}, {api.MicroLessU, 0, top, 9, 1}, {api.MicroLessU, least, most, 9, 0},
	{api.MicroLeft, 0x80000001, 0, 9, 0x80000001}, {api.MicroLeft, 3, 1, 9, 6}, {api.MicroLeft, 3, 31, 9, least}, {api.MicroLeft, 3, 32, 9, 3}, {api.MicroLeft, 3, 33, 9, 6}, {api.MicroLeft, 3, top, 9, least},
	{api.MicroRight, 0x80000001, 0, 9, 0x80000001}, {api.MicroRight, least, 4, 9, 0x08000000}, {api.MicroRight, least, 31, 9, 1}, {api.MicroRight, least, 64, 9, least}, {api.MicroRight, least, 0x80000024, 9, 0x08000000},
	{api.MicroArith, 0x80000001, 0, 9, 0x80000001}, {api.MicroArith, least, 4, 9, 0xf8000000}, {api.MicroArith, least, 31, 9, top}, {api.MicroArith, most, 31, 9, 0}, {api.MicroArith, least, 0x80000024, 9, 0xf8000000}, {api.MicroArith, least, top, 9, top},
}

// P14.2
func TestValueTold(t *testing.T) {
	for i, x := range valuesTold {
		if v := Value(x.kind, x.a, x.b, x.imm); v != x.want || reckoned(x.kind, x.a, x.b, x.imm) != x.want {
			t.Errorf("%d: %d of %#x, %#x: %#x, wanted %#x", i, x.kind, x.a, x.b, v, x.want)
		}
	}
}

// P14.2: each kind of each pair of edges; R1: of kinds that there are not calls end.
func TestValueEdges(t *testing.T) {
	for _, a := range edges() {
		for _, b := range edges() {
			for kind := api.MicroSet; kind < api.Micros; kind++ {
				for _, imm := range []uint32{0, 77, top} {
					if v := Value(kind, a, b, imm); v != reckoned(kind, a, b, imm) {
						t.Fatalf("%d of %#x, %#x, %#x: %#x", kind, a, b, imm, v)
					}
				}
			}
			for _, kind := range []int{math.MinInt, -1, 0, api.Micros, math.MaxInt} {
				Value(kind, a, b, 5)
			}
		}
	}
}

func sameRegisters(t *testing.T, what any, got, want [32]uint32) {
	t.Helper()
	if got != want {
		t.Errorf("%v:\n%x, wanted\n%x", what, got, want)
	}
}

// P14.2: each kind done by itself, of two registers and of a number in either's place; all other registers stay.
func TestRunEach(t *testing.T) {
	for i, x := range valuesTold {
		r := with(regs{0: 0, 3: x.a, 5: x.b})
		want := changed(r, regs{7: x.want})
		ops := map[string]api.Micro{"registers": {Kind: x.kind, Dst: 7, A: 3, B: 5}, "B": {Kind: x.kind, Dst: 7, A: 3, B: 32, Imm: x.b}, "A": {Kind: x.kind, Dst: 7, A: 32, B: 5, Imm: x.a}}
		switch x.kind {
		case api.MicroSet:
			ops = map[string]api.Micro{"set": {Kind: x.kind, Dst: 7, Imm: x.imm}}
		case api.MicroMove:
			ops = map[string]api.Micro{"register": {Kind: x.kind, Dst: 7, A: 3}, "number": {Kind: x.kind, Dst: 7, A: 32, Imm: x.a}}
		}
		for name, m := range ops {
			if !May([]api.Micro{m}) {
				t.Errorf("%d: %+v", i, m)
			}
			sameRegisters(t, fmt.Sprint(i, name), Run([]api.Micro{m}, r), want)
		}
	}
	r := with(regs{0: 0})
	sameRegisters(t, "none", Run([]api.Micro{{}, {Count: 3}}, r), r)
	sameRegisters(t, "no operations", Run(nil, r), r)
	both := []api.Micro{{Kind: api.MicroSub, Dst: 31, A: 32, B: 32, Imm: 5}, {Kind: api.MicroAdd, Dst: 1, A: 32, B: 32, Imm: 5}}
	sameRegisters(t, "both the number", Run(both, r), changed(r, regs{31: 0, 1: 10}))
}

// P14.2: several one behind the other: each reads what the one ahead wrote, also its own register.
func TestRunRow(t *testing.T) {
	l := []api.Micro{
		{Kind: api.MicroSet, Dst: 1, Imm: 5, Count: 1}, {Kind: api.MicroAdd, Dst: 2, A: 1, B: 1, Count: 2}, {Kind: api.MicroSub, Dst: 1, A: 1, B: 2, Count: 3},
		{Count: 4}, {Kind: api.MicroLeft, Dst: 2, A: 2, B: 32, Imm: 33, Count: 5}, {Kind: api.MicroMove, Dst: 31, A: 2, Count: 5}, {Kind: api.MicroLess, Dst: 2, A: 1, B: 0, Count: 6},
	}
	behind := []regs{nil, {1: 5}, {1: 5, 2: 10}, {1: top - 4, 2: 10}, {1: top - 4, 2: 10}, {1: top - 4, 2: 20, 31: 20}, {1: top - 4, 2: 1, 31: 20}}
	r := with(regs{0: 0})
	if !May(l) {
		t.Error("may not be")
	}
	sameRegisters(t, "all", Run(l, r), changed(r, behind[6]))
	for count := -3; count < 20; count++ {
		sameRegisters(t, count, Until(l, r, count), changed(r, behind[max(0, min(count, 6))]))
	}
	for _, count := range []int{math.MinInt, -1, 0} {
		sameRegisters(t, count, Until(l, r, count), r)
	}
	for _, count := range []int{6, 7, 16, 17, math.MaxInt} {
		sameRegisters(t, count, Until(l, r, count), Run(l, r))
	}
}

// P14.2: of operations with equal Counts all or none are done; one whose Count is 0 is done of 0 already, of none below.
func TestUntilCounts(t *testing.T) {
	l := counts(0, 0, 2, 2, 5, 16)
	var r [32]uint32
	for count, want := range map[int]regs{
		-1: nil, math.MinInt: nil, 0: {1: 1, 2: 2}, 1: {1: 1, 2: 2}, 2: {1: 1, 2: 2, 3: 3, 4: 4}, 4: {1: 1, 2: 2, 3: 3, 4: 4},
		5: {1: 1, 2: 2, 3: 3, 4: 4, 5: 5}, 15: {1: 1, 2: 2, 3: 3, 4: 4, 5: 5}, 16: {1: 1, 2: 2, 3: 3, 4: 4, 5: 5, 6: 6}, 17: {1: 1, 2: 2, 3: 3, 4: 4, 5: 5, 6: 6},
	} {
		sameRegisters(t, count, Until(l, r, count), changed(r, want))
	}
	sameRegisters(t, "no operations", Until(nil, with(nil), 5), with(nil))
}

// P14.2: R[0] that is not 0 is taken as 0, by what reads it and in what is told, also if nothing is done.
func TestRegisterZero(t *testing.T) {
	r := with(regs{0: 99})
	zero := with(regs{0: 0})
	l := []api.Micro{{Kind: api.MicroAdd, Dst: 1, A: 0, B: 0, Count: 1}, {Kind: api.MicroMove, Dst: 2, A: 0, Count: 2}, {Kind: api.MicroSub, Dst: 3, A: 0, B: 32, Imm: 1, Count: 3}}
	want := changed(zero, regs{1: 0, 2: 0, 3: top})
	sameRegisters(t, "Run", Run(l, r), want)
	sameRegisters(t, "Until all", Until(l, r, 3), want)
	sameRegisters(t, "Until 0", Until(l, r, 0), zero)
	sameRegisters(t, "Until -1", Until(l, r, -1), zero)
	sameRegisters(t, "none", Run(nil, r), zero)
	sameRegisters(t, "none, until", Until(nil, r, 5), zero)
	sameRegisters(t, "MicroNone", Run([]api.Micro{{Count: 1}}, r), zero)
	sameRegisters(t, "Translate", Run(Translate(wordsOf(t, "addiu $0,$1,7", "addu $4,$0,$0")), r), changed(zero, regs{4: 0}))
	if r != with(regs{0: 99}) {
		t.Error("what was handed in is another one")
	}
}

// anyNumber is any word, more often one at an edge.
func anyNumber(r *rand.Rand) uint32 {
	if l := edges(); r.Intn(2) == 0 {
		return l[r.Intn(len(l))]
	}
	return r.Uint32() >> r.Intn(33)
}

func anyRegisters(r *rand.Rand) [32]uint32 {
	var all [32]uint32
	for n := range all {
		all[n] = anyNumber(r)
	}
	return all
}

// anyOps are operations that may be; few registers, so that one reads what another one wrote.
func anyOps(r *rand.Rand) []api.Micro {
	l := make([]api.Micro, r.Intn(17))
	count, last := 0, []int{4, 31}[r.Intn(2)]
	operand := func() int {
		if r.Intn(4) == 0 {
			return 32
		}
		return r.Intn(last + 1)
	}
	for n := range l {
		m := &l[n]
		count = min(16, count+[]int{0, 1, 1, 2}[r.Intn(4)])
		m.Kind, m.Count = r.Intn(14), count
		if m.Kind != api.MicroNone {
			m.Dst = 1 + r.Intn(last)
		}
		if m.Kind >= api.MicroMove {
			m.A = operand()
		}
		if m.Kind > api.MicroMove {
			m.B = operand()
		}
		if m.Kind == api.MicroSet || m.A == 32 || m.B == 32 {
			m.Imm = anyNumber(r)
		}
	}
	return l
}

// done is a plain reckoning of operations.
func done(l []api.Micro, r [32]uint32, count int) [32]uint32 {
	r[0] = 0
	for _, m := range l {
		if m.Count > count || m.Kind == api.MicroNone {
			continue
		}
		means := append(r[:], m.Imm)
		r[m.Dst] = reckoned(m.Kind, means[m.A], means[m.B], m.Imm)
	}
	return r
}

// P14.2, P14.3: any operations that may be, of any registers.
func TestRunAny(t *testing.T) {
	r := rand.New(rand.NewSource(142))
	for range 20000 {
		l, in := anyOps(r), anyRegisters(r)
		if !May(l) {
			t.Fatalf("%+v", l)
		}
		was, held := slices.Clone(l), in
		if got, want := Run(l, in), done(l, in, 16); got != want {
			t.Fatalf("%+v of\n%x:\n%x, wanted\n%x", l, in, got, want)
		}
		for count := -1; count < 18; count++ {
			if got, want := Until(l, in, count), done(l, in, count); got != want {
				t.Fatalf("%+v until %d of\n%x:\n%x, wanted\n%x", l, count, in, got, want)
			}
		}
		if Until(l, in, 16) != Run(l, in) || in != held || !slices.Equal(l, was) {
			t.Fatalf("%+v", l)
		}
	}
}

// anyInt is a number at or beyond the edges of all fields.
func anyInt(r *rand.Rand) int {
	l := []int{math.MinInt, math.MinInt + 1, -1 << 32, -33, -32, -2, -1, 0, 1, 2, 13, 14, 15, 16, 17, 31, 32, 33, 63, 64, 1 << 31, 1 << 32, 1<<32 + 1, math.MaxInt}
	return l[r.Intn(len(l))]
}

// R1, R4, R5: any operations, also such as may not be: calls end, nothing that was handed in is another one, one answer.
func TestBeyond(t *testing.T) {
	r := rand.New(rand.NewSource(143))
	for range 50000 {
		room := make([]api.Micro, r.Intn(40))
		for n := range room {
			room[n] = api.Micro{Kind: r.Intn(16) - 1, Dst: r.Intn(34) - 1, A: r.Intn(35) - 1, B: r.Intn(35) - 1, Imm: anyNumber(r), Count: n}
			for range r.Intn(3) {
				*[]*int{&room[n].Kind, &room[n].Dst, &room[n].A, &room[n].B, &room[n].Count}[r.Intn(5)] = anyInt(r)
			}
		}
		l := room[:r.Intn(len(room)+1)]
		was, in := slices.Clone(room), anyRegisters(r)
		held, count := in, anyInt(r)
		may := len(l) <= 16
		for n, m := range l {
			may = may && mayOne(m) && (n == 0 || l[n-1].Count <= m.Count)
		}
		if May(l) != may {
			t.Fatalf("%+v: %v", l, !may)
		}
		if Run(l, in) != Run(l, in) || Until(l, in, count) != Until(l, in, count) || Value(anyInt(r), 1, 2, 3) > top {
			t.Fatalf("%+v: two answers", l)
		}
		if !slices.Equal(room, was) || in != held {
			t.Fatalf("%+v, handed in\n%+v", room, was)
		}
	}
	huge := make([]api.Micro, 1<<18)
	if May(huge) || Run(huge, [32]uint32{1: 5}) != [32]uint32{1: 5} {
		t.Error("a long row")
	}
}
