package opt

import (
	"maps"
	"slices"

	"zoetrope/api"
)

// readOf are the registers that an operation reads, as the chapter's Words say.
func readOf(m api.Micro) []int {
	names := []int{m.A, m.B}
	switch m.Kind {
	case api.MicroNone, api.MicroSet:
		names = nil
	case api.MicroMove:
		names = names[:1]
	}
	return slices.DeleteFunc(names, func(n int) bool { return n == 32 })
}

func doesWrite(m api.Micro) bool { return m.Kind != api.MicroNone }

// copyModel is P15.1 with a row of pairs: a copy, and that of which it is one.
func copyModel(l []api.Micro) []api.Micro {
	var noted [][2]int
	stands := func(n int) int {
		if at := slices.IndexFunc(noted, func(p [2]int) bool { return p[0] == n }); at >= 0 {
			return noted[at][1]
		}
		return n
	}
	var made []api.Micro
	for _, m := range l {
		if slices.Contains(readOf(m), m.A) {
			m.A = stands(m.A)
		}
		if m.Kind > api.MicroMove && m.B != 32 {
			m.B = stands(m.B)
		}
		if doesWrite(m) {
			noted = slices.DeleteFunc(noted, func(p [2]int) bool { return p[0] == m.Dst || p[1] == m.Dst })
		}
		if m.Kind == api.MicroMove && m.A != 32 && m.A != m.Dst {
			noted = append(noted, [2]int{m.Dst, m.A})
		}
		made = append(made, m)
	}
	return made
}

// reckoned is what a kind makes of two numbers, reckoned in wider ones.
func reckoned(kind int, a, b uint32) uint32 {
	signedA, signedB, by := int64(int32(a)), int64(int32(b)), b%32
	isBelow := map[bool]uint32{true: 1}
	switch kind {
	case api.MicroMove:
		return a
	case api.MicroAdd:
		return uint32(signedA + signedB)
	case api.MicroSub:
		return uint32(signedA - signedB)
	case api.MicroAnd:
		return a &^ ^b
	case api.MicroOr:
		return ^(^a &^ b)
	case api.MicroXor:
		return (a | b) &^ (a & b)
	case api.MicroNor:
		return ^a &^ b
	case api.MicroLess:
		return isBelow[signedA < signedB]
	case api.MicroLessU:
		return isBelow[a < b]
	case api.MicroLeft:
		return uint32(uint64(a) << by)
	case api.MicroRight:
		return uint32(uint64(a) >> by)
	}
	return uint32(signedA >> by)
}

// foldModel is P15.2 with a map of the numbers that are known.
func foldModel(l []api.Micro) []api.Micro {
	numbers := map[int]uint32{0: 0}
	var made []api.Micro
	for _, m := range l {
		known := maps.Clone(numbers)
		known[32] = m.Imm
		a, isA := known[m.A]
		b, isB := known[m.B]
		isEven := slices.Contains([]int{api.MicroAdd, api.MicroOr, api.MicroXor}, m.Kind)
		switch {
		case m.Kind == api.MicroNone || m.Kind == api.MicroSet:
		case isA && (m.Kind == api.MicroMove || isB):
			m = api.Micro{Kind: api.MicroSet, Dst: m.Dst, Imm: reckoned(m.Kind, a, b), Count: m.Count}
		case isEven && isA && a == 0:
			m = api.Micro{Kind: api.MicroMove, Dst: m.Dst, A: m.B, Count: m.Count}
		case (isEven || m.Kind == api.MicroSub) && isB && b == 0:
			m = api.Micro{Kind: api.MicroMove, Dst: m.Dst, A: m.A, Count: m.Count}
		}
		if doesWrite(m) {
			delete(numbers, m.Dst)
		}
		if m.Kind == api.MicroSet {
			numbers[m.Dst] = m.Imm
		}
		made = append(made, m)
	}
	return made
}

// deadModel is P15.3, asked of each operation with all later ones.
func deadModel(l []api.Micro) []api.Micro {
	var made []api.Micro
	for n, m := range l {
		isDead := false
		for k := n + 1; k < len(l); k++ {
			isRead := slices.ContainsFunc(l[n+1:k+1], func(later api.Micro) bool { return slices.Contains(readOf(later), m.Dst) })
			isDead = isDead || doesWrite(l[k]) && l[k].Dst == m.Dst && !isRead
		}
		if doesWrite(m) && !isDead {
			made = append(made, m)
		}
	}
	return made
}

// allModel is P15.4.
func allModel(l []api.Micro, f api.Flags) []api.Micro {
	made := slices.Clone(l)
	if f.Copy {
		made = copyModel(made)
	}
	if f.Fold {
		made = foldModel(made)
	}
	if f.Copy {
		made = copyModel(made)
	}
	if f.Dead {
		made = deadModel(made)
	}
	return made
}
