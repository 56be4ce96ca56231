package opt

import (
	"slices"
	"testing"

	"zoetrope/api"
	"zoetrope/ir"
)

const top = 1<<32 - 1

func set(d int, v uint32) api.Micro { return api.Micro{Kind: api.MicroSet, Dst: d, Imm: v} }

func move(d, a int) api.Micro { return api.Micro{Kind: api.MicroMove, Dst: d, A: a} }

func op(kind, d, a, b int) api.Micro { return api.Micro{Kind: kind, Dst: d, A: a, B: b} }

func add(d, a, b int) api.Micro { return op(api.MicroAdd, d, a, b) }

func sub(d, a, b int) api.Micro { return op(api.MicroSub, d, a, b) }

// num is an operation with a number in A's place, or in B's, or in both.
func num(kind, d, a, b int, v uint32) api.Micro {
	return api.Micro{Kind: kind, Dst: d, A: a, B: b, Imm: v}
}

func at(m api.Micro, count int) api.Micro {
	m.Count = count
	return m
}

func ops(l ...api.Micro) []api.Micro { return l }

// told are operations, and what a pass is to make of them.
type told struct {
	what    string
	l, want []api.Micro
}

// holdTold holds a pass against what is told of it; what is told must itself be in order with P15.5.
func holdTold(t *testing.T, pass func([]api.Micro) []api.Micro, all []told) {
	t.Helper()
	for _, x := range all {
		if !ir.May(x.l) || !ir.May(x.want) {
			t.Errorf("%s: may not be", x.what)
		}
		if got := pass(x.l); !slices.Equal(got, x.want) {
			t.Errorf("%s: %+v\nmade %+v\nwanted %+v", x.what, x.l, got, x.want)
		}
		for _, r := range someRegisters() {
			if ir.Run(x.l, r) != ir.Run(x.want, r) {
				t.Errorf("%s: what is wanted does something else", x.what)
			}
		}
	}
}

// someRegisters are a few rows in which hardly two registers are the same.
func someRegisters() [][32]uint32 {
	var l [3][32]uint32
	for n := range 32 {
		l[0][n], l[1][n], l[2][n] = uint32(n)*0x01010101, top-uint32(n)*0x07050301, uint32(1)<<n
	}
	return l[:]
}

// P15.1
func TestCopyTold(t *testing.T) {
	holdTold(t, Copy, []told{
		{"none", nil, nil},
		{"one", ops(add(1, 2, 3)), ops(add(1, 2, 3))},
		{"by A", ops(move(2, 1), sub(3, 2, 4)), ops(move(2, 1), sub(3, 1, 4))},
		{"by B", ops(move(2, 1), sub(3, 4, 2)), ops(move(2, 1), sub(3, 4, 1))},
		{"by both", ops(move(2, 1), add(3, 2, 2)), ops(move(2, 1), add(3, 1, 1))},
		{"by both, of two", ops(move(2, 1), move(4, 3), sub(5, 2, 4)), ops(move(2, 1), move(4, 3), sub(5, 1, 3))},
		{"by one beside a number", ops(move(2, 1), num(api.MicroLeft, 3, 2, 32, 7), num(api.MicroSub, 4, 32, 2, 9)), ops(move(2, 1), num(api.MicroLeft, 3, 1, 32, 7), num(api.MicroSub, 4, 32, 1, 9))},
		{"in a move", ops(move(2, 1), move(3, 2)), ops(move(2, 1), move(3, 1))},
		{"a copy of a copy", ops(move(2, 1), move(3, 2), move(4, 3), add(5, 4, 3)), ops(move(2, 1), move(3, 1), move(4, 1), add(5, 1, 1))},
		{"the copy in between is written", ops(move(2, 1), move(3, 2), set(2, 9), add(4, 3, 2)), ops(move(2, 1), move(3, 1), set(2, 9), add(4, 1, 2))},
		{"the copied one is written", ops(move(2, 1), set(1, 5), add(4, 2, 2)), ops(move(2, 1), set(1, 5), add(4, 2, 2))},
		{"the copied one is written, of several copies", ops(move(2, 1), move(3, 1), move(5, 4), add(1, 2, 3), add(6, 2, 3), add(7, 5, 1)), ops(move(2, 1), move(3, 1), move(5, 4), add(1, 1, 1), add(6, 2, 3), add(7, 4, 1))},
		{"the copy is written", ops(move(2, 1), set(2, 5), add(4, 2, 2)), ops(move(2, 1), set(2, 5), add(4, 2, 2))},
		{"the copy is written, others are not", ops(move(2, 1), move(3, 1), set(2, 5), add(4, 2, 3)), ops(move(2, 1), move(3, 1), set(2, 5), add(4, 2, 1))},
		{"another copy of the same", ops(move(2, 1), move(2, 3), add(4, 2, 2)), ops(move(2, 1), move(2, 3), add(4, 3, 3))},
		{"the same copy again", ops(move(2, 1), move(2, 1), add(4, 2, 2)), ops(move(2, 1), move(2, 1), add(4, 1, 1))},
		{"a copy that is made a copy of itself", ops(move(2, 1), move(2, 2), add(4, 2, 2)), ops(move(2, 1), move(2, 1), add(4, 1, 1))},
		{"back again", ops(move(2, 1), move(1, 2), add(4, 2, 1)), ops(move(2, 1), move(1, 1), add(4, 2, 1))},
		{"the copied one is moved to itself", ops(move(2, 1), move(1, 1), add(4, 2, 1)), ops(move(2, 1), move(1, 1), add(4, 2, 1))},
		{"two change places", ops(move(3, 1), move(1, 2), move(2, 3), add(4, 1, 2)), ops(move(3, 1), move(1, 2), move(2, 3), add(4, 1, 3))},
		{"reads a copy and writes it", ops(move(2, 1), add(2, 2, 3), add(4, 2, 1)), ops(move(2, 1), add(2, 1, 3), add(4, 2, 1))},
		{"reads a copy and writes the copied one", ops(move(2, 1), add(1, 2, 2), add(4, 2, 1)), ops(move(2, 1), add(1, 1, 1), add(4, 2, 1))},
		{"to itself alone", ops(move(1, 1), move(2, 1), add(3, 1, 2)), ops(move(1, 1), move(2, 1), add(3, 1, 1))},
		{"of register 0", ops(move(2, 0), add(3, 2, 0), sub(4, 0, 2)), ops(move(2, 0), add(3, 0, 0), sub(4, 0, 0))},
		{"of register 0, by none", ops(set(2, 0), add(3, 2, 0)), ops(set(2, 0), add(3, 2, 0))},
		{"of a number", ops(num(api.MicroMove, 2, 32, 0, 7), add(3, 2, 2), move(4, 2), add(5, 4, 4)), ops(num(api.MicroMove, 2, 32, 0, 7), add(3, 2, 2), move(4, 2), add(5, 2, 2))},
		{"a number writes a copy", ops(move(2, 1), num(api.MicroMove, 2, 32, 0, 1), add(3, 2, 2)), ops(move(2, 1), num(api.MicroMove, 2, 32, 0, 1), add(3, 2, 2))},
		{"both numbers", ops(move(2, 1), num(api.MicroXor, 3, 32, 32, 2)), ops(move(2, 1), num(api.MicroXor, 3, 32, 32, 2))},
		{"the first and the last", ops(move(31, 30), move(1, 31), sub(29, 31, 1)), ops(move(31, 30), move(1, 30), sub(29, 30, 30))},
		{"no move is none", ops(add(2, 1, 0), num(api.MicroOr, 3, 2, 32, 0), add(4, 3, 2)), ops(add(2, 1, 0), num(api.MicroOr, 3, 2, 32, 0), add(4, 3, 2))},
		{"what is done ahead stays", ops(add(3, 2, 2), move(2, 1), add(4, 2, 2)), ops(add(3, 2, 2), move(2, 1), add(4, 1, 1))},
	})
}

// P15.1: MicroNone stays where it is and forgets nothing; each operation stays with its Count.
func TestCopyNone(t *testing.T) {
	none := api.Micro{}
	holdTold(t, Copy, []told{
		{"alone", ops(none), ops(none)},
		{"with a Count", ops(at(none, 16)), ops(at(none, 16))},
		{"at the beginning, in the midst, at the end", ops(none, move(2, 1), none, add(3, 2, 2), none), ops(none, move(2, 1), none, add(3, 1, 1), none)},
		{"Counts", ops(at(move(2, 1), 1), at(none, 1), at(move(3, 2), 4), at(add(4, 3, 3), 4), at(set(1, 7), 16)), ops(at(move(2, 1), 1), at(none, 1), at(move(3, 1), 4), at(add(4, 1, 1), 4), at(set(1, 7), 16))},
	})
}

// P15.1: every kind reads by A and by B, unless it is one that does not, and forgets what it writes.
func TestCopyKinds(t *testing.T) {
	for kind := api.MicroAdd; kind < api.Micros; kind++ {
		holdTold(t, Copy, []told{
			{"both", ops(move(2, 1), op(kind, 3, 2, 2)), ops(move(2, 1), op(kind, 3, 1, 1))},
			{"A", ops(move(2, 1), op(kind, 3, 2, 5)), ops(move(2, 1), op(kind, 3, 1, 5))},
			{"B", ops(move(2, 1), op(kind, 3, 5, 2)), ops(move(2, 1), op(kind, 3, 5, 1))},
			{"writes the copy", ops(move(2, 1), op(kind, 2, 5, 6), add(3, 2, 2)), ops(move(2, 1), op(kind, 2, 5, 6), add(3, 2, 2))},
			{"writes the copied one", ops(move(2, 1), op(kind, 1, 5, 6), add(3, 2, 2)), ops(move(2, 1), op(kind, 1, 5, 6), add(3, 2, 2))},
			{"is no copy", ops(op(kind, 2, 1, 1), add(3, 2, 2)), ops(op(kind, 2, 1, 1), add(3, 2, 2))},
		})
	}
}

// P15.2
func TestFoldTold(t *testing.T) {
	holdTold(t, Fold, []told{
		{"none", nil, nil},
		{"one", ops(add(1, 2, 3)), ops(add(1, 2, 3))},
		{"the chapter's", ops(set(1, 5), add(2, 1, 1)), ops(set(1, 5), set(2, 10))},
		{"through several", ops(set(1, 5), add(2, 1, 1), sub(3, 1, 2), op(api.MicroNor, 4, 3, 2), move(5, 4)), ops(set(1, 5), set(2, 10), set(3, top-4), set(4, 4), set(5, 4))},
		{"known by a number", ops(num(api.MicroAdd, 1, 0, 32, 7), num(api.MicroLeft, 2, 1, 32, 2), num(api.MicroSub, 3, 32, 2, 1)), ops(set(1, 7), set(2, 28), set(3, top-26))},
		{"both numbers", ops(num(api.MicroAdd, 1, 32, 32, 7), num(api.MicroSub, 2, 32, 32, 7)), ops(set(1, 14), set(2, 0))},
		{"a move of a number", ops(num(api.MicroMove, 1, 32, 0, 7), move(2, 1)), ops(set(1, 7), set(2, 7))},
		{"a move of what is known", ops(set(1, 9), move(2, 1), add(3, 2, 2)), ops(set(1, 9), set(2, 9), set(3, 18))},
		{"a move of what is not", ops(set(1, 9), move(2, 3), add(4, 2, 1)), ops(set(1, 9), move(2, 3), add(4, 2, 1))},
		{"a move to itself", ops(move(1, 1), set(2, 3), move(2, 2), add(3, 1, 2)), ops(move(1, 1), set(2, 3), set(2, 3), add(3, 1, 2))},
		{"register 0", ops(move(1, 0), add(2, 0, 0), op(api.MicroNor, 3, 0, 0)), ops(set(1, 0), set(2, 0), set(3, top))},
		{"known no more", ops(set(1, 5), add(1, 2, 3), add(4, 1, 1)), ops(set(1, 5), add(1, 2, 3), add(4, 1, 1))},
		{"known no more by a move", ops(set(1, 5), move(1, 2), add(4, 1, 1)), ops(set(1, 5), move(1, 2), add(4, 1, 1))},
		{"known no more by what is made a move", ops(set(1, 5), add(1, 2, 0), add(4, 1, 1)), ops(set(1, 5), move(1, 2), add(4, 1, 1))},
		{"a 0 that is known no more", ops(set(1, 0), add(1, 2, 3), add(4, 1, 5), add(6, 5, 1)), ops(set(1, 0), add(1, 2, 3), add(4, 1, 5), add(6, 5, 1))},
		{"another number", ops(set(1, 5), set(1, 6), add(2, 1, 1)), ops(set(1, 5), set(1, 6), set(2, 12))},
		{"known again", ops(set(1, 5), add(1, 2, 3), set(1, 6), add(2, 1, 1)), ops(set(1, 5), add(1, 2, 3), set(1, 6), set(2, 12))},
		{"reads and writes one register", ops(set(1, 5), add(1, 1, 1), add(1, 1, 1), sub(1, 1, 2), add(3, 1, 1)), ops(set(1, 5), set(1, 10), set(1, 20), sub(1, 1, 2), add(3, 1, 1))},
		{"known at A alone", ops(set(1, 5), sub(2, 1, 3), op(api.MicroAnd, 4, 1, 3)), ops(set(1, 5), sub(2, 1, 3), op(api.MicroAnd, 4, 1, 3))},
		{"known at B alone", ops(set(1, 5), sub(2, 3, 1), num(api.MicroOr, 4, 3, 32, 1)), ops(set(1, 5), sub(2, 3, 1), num(api.MicroOr, 4, 3, 32, 1))},
		{"a 0 that was reckoned", ops(set(1, 5), sub(2, 1, 1), add(3, 2, 4), sub(5, 4, 2), sub(6, 2, 4)), ops(set(1, 5), set(2, 0), move(3, 4), move(5, 4), sub(6, 2, 4))},
		{"the first and the last", ops(set(31, 8), num(api.MicroRight, 1, 31, 32, 3), add(31, 31, 1)), ops(set(31, 8), set(1, 1), set(31, 9))},
		{"equal registers that are not known", ops(sub(1, 2, 2), op(api.MicroXor, 3, 2, 2), op(api.MicroAnd, 4, 2, 0), op(api.MicroLessU, 5, 2, 0)), ops(sub(1, 2, 2), op(api.MicroXor, 3, 2, 2), op(api.MicroAnd, 4, 2, 0), op(api.MicroLessU, 5, 2, 0))},
		{"what is done ahead stays", ops(add(2, 1, 1), set(1, 5), add(3, 1, 1)), ops(add(2, 1, 1), set(1, 5), set(3, 10))},
	})
}

// P15.2: MicroNone and MicroSet stay as they are and make nothing unknown; each operation stays with its Count.
func TestFoldNone(t *testing.T) {
	none := api.Micro{}
	holdTold(t, Fold, []told{
		{"alone", ops(none), ops(none)},
		{"with a Count", ops(at(none, 9)), ops(at(none, 9))},
		{"at the beginning, in the midst, at the end", ops(none, set(1, 5), none, add(2, 1, 1), none), ops(none, set(1, 5), none, set(2, 10), none)},
		{"MicroSet alone", ops(set(1, 0), set(31, top)), ops(set(1, 0), set(31, top))},
		{"Counts", ops(at(set(1, 5), 1), at(none, 2), at(add(2, 1, 1), 2), at(num(api.MicroAdd, 3, 4, 32, 0), 7), at(num(api.MicroOr, 5, 32, 6, 0), 7), at(add(7, 8, 9), 16)), ops(at(set(1, 5), 1), at(none, 2), at(set(2, 10), 2), at(move(3, 4), 7), at(move(5, 6), 7), at(add(7, 8, 9), 16))},
	})
}

// P15.2: each kind of which all that it reads is known: by registers, by a number at A, at B.
func TestFoldKinds(t *testing.T) {
	for _, x := range []struct {
		kind       int
		a, b, want uint32
	}{
		{api.MicroAdd, 7, 9, 16}, {api.MicroAdd, top, 2, 1}, {api.MicroSub, 7, 9, top - 1}, {api.MicroAnd, 12, 10, 8}, {api.MicroOr, 12, 10, 14}, {api.MicroXor, 12, 10, 6}, {api.MicroNor, 12, 10, top - 14},
		{api.MicroLess, top, 1, 1}, {api.MicroLess, 1, top, 0}, {api.MicroLessU, top, 1, 0}, {api.MicroLessU, 1, top, 1}, {api.MicroLeft, 3, 33, 6}, {api.MicroRight, 1 << 31, 4, 1 << 27}, {api.MicroArith, 1 << 31, 36, 31 << 27},
		{api.MicroAdd, 0, 9, 9}, {api.MicroAdd, 9, 0, 9}, {api.MicroSub, 0, 9, top - 8}, {api.MicroSub, 9, 0, 9}, {api.MicroOr, 0, 9, 9}, {api.MicroXor, 9, 0, 9}, {api.MicroNor, 0, 0, top}, {api.MicroArith, 9, 0, 9},
	} {
		holdTold(t, Fold, []told{
			{"registers", ops(set(1, x.a), set(2, x.b), op(x.kind, 3, 1, 2)), ops(set(1, x.a), set(2, x.b), set(3, x.want))},
			{"a number at A", ops(set(2, x.b), num(x.kind, 3, 32, 2, x.a)), ops(set(2, x.b), set(3, x.want))},
			{"a number at B", ops(set(1, x.a), num(x.kind, 3, 1, 32, x.b)), ops(set(1, x.a), set(3, x.want))},
			{"its own register", ops(set(1, x.a), num(x.kind, 1, 1, 32, x.b), move(4, 1)), ops(set(1, x.a), set(1, x.want), set(4, x.want))},
		})
	}
}

// P15.2: each kind with a 0 that is known, at A and at B, while the other one is not known.
func TestFoldZero(t *testing.T) {
	for kind := api.MicroAdd; kind < api.Micros; kind++ {
		isEven := kind == api.MicroAdd || kind == api.MicroOr || kind == api.MicroXor
		for _, zero := range []int{0, 1, 32} {
			atA, atB := op(kind, 3, zero, 4), op(kind, 3, 4, zero)
			madeA, madeB := atA, atB
			if isEven {
				madeA = move(3, 4)
			}
			if isEven || kind == api.MicroSub {
				madeB = move(3, 4)
			}
			holdTold(t, Fold, []told{
				{"at A", ops(set(1, 0), at(atA, 5)), ops(set(1, 0), at(madeA, 5))},
				{"at B", ops(set(1, 0), at(atB, 5)), ops(set(1, 0), at(madeB, 5))},
				{"at A, and what is written is not known", ops(set(3, 6), set(1, 0), atA, add(5, 3, 3)), ops(set(3, 6), set(1, 0), madeA, add(5, 3, 3))},
				{"at B, and what is written is not known", ops(set(3, 6), set(1, 0), atB, add(5, 3, 3)), ops(set(3, 6), set(1, 0), madeB, add(5, 3, 3))},
			})
		}
		for _, m := range ops(num(kind, 3, 4, 32, 1), num(kind, 3, 32, 4, 1), op(kind, 3, 4, 5)) {
			holdTold(t, Fold, []told{{"no 0", ops(m), ops(m)}})
		}
	}
}

// P15.3
func TestDeadTold(t *testing.T) {
	none := api.Micro{}
	holdTold(t, Dead, []told{
		{"none", nil, nil},
		{"one", ops(add(1, 2, 3)), ops(add(1, 2, 3))},
		{"the chapter's", ops(set(1, 5), set(1, 6)), ops(set(1, 6))},
		{"several", ops(set(1, 5), set(1, 6), set(1, 7), set(1, 8)), ops(set(1, 8))},
		{"others in between", ops(set(1, 5), add(2, 3, 4), move(5, 2), set(1, 6)), ops(add(2, 3, 4), move(5, 2), set(1, 6))},
		{"read later by A", ops(set(1, 5), add(2, 1, 3), set(1, 6)), ops(set(1, 5), add(2, 1, 3), set(1, 6))},
		{"read later by B", ops(set(1, 5), add(2, 3, 1), set(1, 6)), ops(set(1, 5), add(2, 3, 1), set(1, 6))},
		{"read later by a move", ops(set(1, 5), move(2, 1), set(1, 6)), ops(set(1, 5), move(2, 1), set(1, 6))},
		{"read behind the write", ops(set(1, 5), set(1, 6), add(2, 1, 1)), ops(set(1, 6), add(2, 1, 1))},
		{"read by the one that writes again, A", ops(set(1, 5), sub(1, 1, 2)), ops(set(1, 5), sub(1, 1, 2))},
		{"read by the one that writes again, B", ops(set(1, 5), sub(1, 2, 1)), ops(set(1, 5), sub(1, 2, 1))},
		{"read by the one that writes again, both", ops(set(1, 5), sub(1, 1, 1)), ops(set(1, 5), sub(1, 1, 1))},
		{"read by a move to itself", ops(set(1, 5), move(1, 1)), ops(set(1, 5), move(1, 1))},
		{"a move to itself that is written over", ops(set(1, 5), move(1, 1), set(1, 6)), ops(set(1, 5), set(1, 6))},
		{"a move to itself alone", ops(move(1, 1)), ops(move(1, 1))},
		{"written by each form", ops(set(1, 5), move(1, 2), num(api.MicroMove, 1, 32, 0, 7), num(api.MicroAdd, 1, 32, 32, 7), add(1, 2, 3)), ops(add(1, 2, 3))},
		{"its own register is read by itself alone", ops(add(1, 1, 2), set(1, 6)), ops(set(1, 6))},
		{"read by one that is left out", ops(set(1, 5), move(2, 1), set(2, 7), set(1, 8)), ops(set(1, 5), set(2, 7), set(1, 8))},
		{"read by its own register's that is left out", ops(add(1, 1, 1), add(1, 1, 1), set(1, 8)), ops(add(1, 1, 1), set(1, 8))},
		{"never written again", ops(set(1, 5), set(2, 6), set(3, 7)), ops(set(1, 5), set(2, 6), set(3, 7))},
		{"read ahead alone", ops(add(2, 1, 1), set(1, 5), set(1, 6)), ops(add(2, 1, 1), set(1, 6))},
		{"the first and the last", ops(set(31, 5), set(1, 5), set(31, 6), set(1, 6)), ops(set(31, 6), set(1, 6))},
		{"register 0 read", ops(set(1, 5), add(2, 0, 0), move(1, 0)), ops(add(2, 0, 0), move(1, 0))},
		{"MicroNone alone", ops(none), nil},
		{"MicroNone at the beginning, in the midst, at the end", ops(none, set(1, 5), none, none, set(2, 6), at(none, 3)), ops(set(1, 5), set(2, 6))},
		{"MicroNone neither reads nor writes", ops(set(1, 5), none, set(1, 6), none), ops(set(1, 6))},
		{"Counts", ops(at(none, 1), at(set(1, 5), 2), at(set(2, 6), 3), at(set(1, 7), 3), at(none, 4), at(set(3, 8), 16)), ops(at(set(2, 6), 3), at(set(1, 7), 3), at(set(3, 8), 16))},
	})
}

// P15.3: every kind reads by A and by B, and is left out where it is done for nothing.
func TestDeadKinds(t *testing.T) {
	for kind := api.MicroAdd; kind < api.Micros; kind++ {
		same := func(l ...api.Micro) told { return told{"stays", l, l} }
		holdTold(t, Dead, []told{
			same(set(1, 5), op(kind, 3, 1, 2), set(1, 6)), same(set(1, 5), op(kind, 3, 2, 1), set(1, 6)), same(set(1, 5), op(kind, 1, 2, 1)), same(set(1, 5), op(kind, 1, 1, 2)), same(op(kind, 1, 2, 3)),
			same(set(1, 5), num(kind, 1, 1, 32, 7)), same(set(1, 5), num(kind, 1, 32, 1, 7)),
			{"writes over", ops(set(1, 5), op(kind, 1, 2, 3)), ops(op(kind, 1, 2, 3))},
			{"is written over", ops(op(kind, 1, 2, 3), set(1, 5)), ops(set(1, 5))},
			{"of numbers", ops(set(1, 5), num(kind, 1, 32, 32, 3)), ops(num(kind, 1, 32, 32, 3))},
		})
	}
}

// flagged are passes in a row that All is to make of flags; each of the eight.
func flagged() map[api.Flags][]func([]api.Micro) []api.Micro {
	type row = []func([]api.Micro) []api.Micro
	return map[api.Flags]row{
		{}: {}, {Copy: true}: {Copy, Copy}, {Fold: true}: {Fold}, {Dead: true}: {Dead},
		{Copy: true, Fold: true}: {Copy, Fold, Copy}, {Copy: true, Dead: true}: {Copy, Copy, Dead}, {Fold: true, Dead: true}: {Fold, Dead},
		{Copy: true, Fold: true, Dead: true}: {Copy, Fold, Copy, Dead},
	}
}

// P15.4: each flag alone, two of them, all, none, of operations on which the order of the passes is seen.
func TestAllTold(t *testing.T) {
	l := ops(at(set(1, 5), 1), at(move(2, 1), 2), at(sub(3, 2, 4), 3), at(num(api.MicroAdd, 5, 6, 32, 0), 4), at(add(7, 5, 5), 4), at(api.Micro{}, 6), at(set(5, 8), 7), at(set(2, 9), 8))
	moved, none := at(move(5, 6), 4), at(api.Micro{}, 6)
	last := ops(at(set(5, 8), 7), at(set(2, 9), 8))
	copied := slices.Concat(ops(l[0], l[1], at(sub(3, 1, 4), 3), l[3], l[4], none), last)
	for f, want := range map[api.Flags][]api.Micro{
		{}:                                   l,
		{Copy: true}:                         copied,
		{Fold: true}:                         slices.Concat(ops(l[0], at(set(2, 5), 2), l[2], moved, l[4], none), last),
		{Dead: true}:                         slices.Concat(l[:5], last),
		{Copy: true, Fold: true}:             slices.Concat(ops(l[0], at(set(2, 5), 2), at(sub(3, 1, 4), 3), moved, at(add(7, 6, 6), 4), none), last),
		{Copy: true, Dead: true}:             slices.Concat(ops(l[0], at(sub(3, 1, 4), 3), l[3], l[4]), last),
		{Fold: true, Dead: true}:             slices.Concat(ops(l[0], at(set(2, 5), 2), l[2], moved, l[4]), last),
		{Copy: true, Fold: true, Dead: true}: slices.Concat(ops(l[0], at(sub(3, 1, 4), 3), at(add(7, 6, 6), 4)), last),
	} {
		holdTold(t, func(l []api.Micro) []api.Micro { return All(l, f) }, []told{{"all", l, want}, {"nothing", nil, nil}})
	}
}

// P15.4: a row of sixteen, the whole told; and MicroNone, which stays unless Dead is made.
func TestAllSixteen(t *testing.T) {
	var l []api.Micro
	for n := range 16 {
		l = append(l, num(api.MicroAdd, 1, 1, 32, uint32(n)))
		l[n].Count = n + 1
	}
	l[0].A = 0
	l[0].Imm = 100
	got := All(l, api.Flags{Copy: true, Fold: true, Dead: true})
	if want := ops(at(set(1, 220), 16)); !slices.Equal(got, want) {
		t.Errorf("%+v", got)
	}
	if got := All(l, api.Flags{Copy: true, Dead: true}); !slices.Equal(got, l) {
		t.Errorf("%+v", got)
	}
	none := make([]api.Micro, 16)
	for f := range flagged() {
		if got := All(none, f); f.Dead && len(got) != 0 || !f.Dead && !slices.Equal(got, none) {
			t.Errorf("%+v: %+v", f, got)
		}
	}
}
