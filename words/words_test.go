package words

import (
	"math"
	"math/big"
	"testing"

	"zoetrope/api"
)

var (
	two31 = new(big.Int).Lsh(big.NewInt(1), 31)
	two32 = new(big.Int).Lsh(big.NewInt(1), 32)
	two64 = new(big.Int).Lsh(big.NewInt(1), 64)
)

// edges are the words at which a sign, a carry or a bit's place turns, with ordinary ones between.
func edges() []uint32 {
	l := []uint32{
		3, 5, 7, 10, 100, 12345, 65521, 0x12345678, 0x89abcdef, 0xdeadbeef,
		0x55555555, 0xaaaaaaaa, 0xf0000000, 0x0fffffff, 0xffff0000, 0x0000ffff,
	}
	for n := range 32 {
		p := uint32(1) << n
		l = append(l, p-1, p, p+1, -p)
	}
	return append(l, 1<<32-3, 1<<32-2, 1<<32-1)
}

// means tells a word's meaning in numbers without bounds, so that the tests share no arithmetic with the package.
func means(a uint32, signed bool) *big.Int {
	n := new(big.Int).SetUint64(uint64(a))
	if signed && n.Cmp(two31) >= 0 {
		n.Sub(n, two32)
	}
	return n
}

func word(n *big.Int) uint32 {
	return uint32(new(big.Int).Mod(n, two32).Uint64())
}

func outside(n *big.Int) bool {
	return n.Cmp(new(big.Int).Neg(two31)) < 0 || n.Cmp(two31) >= 0
}

// pairs calls f with each pair of edges, with a sign and without.
func pairs(f func(a, b uint32, signed bool)) {
	for _, a := range edges() {
		for _, b := range edges() {
			f(a, b, false)
			f(a, b, true)
		}
	}
}

// P1.1
func TestAddSubExamples(t *testing.T) {
	for i, x := range []struct {
		a, b, sum, dif uint32
		over, under    bool
	}{
		{0, 0, 0, 0, false, false},
		{1, 2, 3, 1<<32 - 1, false, false},
		{1<<31 - 1, 1, 1 << 31, 1<<31 - 2, true, false},
		{1<<31 - 1, 0, 1<<31 - 1, 1<<31 - 1, false, false},
		{1<<31 - 1, 1<<32 - 1, 1<<31 - 2, 1 << 31, false, true},
		{1 << 31, 1, 1<<31 + 1, 1<<31 - 1, false, true},
		{1 << 31, 0, 1 << 31, 1 << 31, false, false},
		{1 << 31, 1 << 31, 0, 0, true, false},
		{1 << 31, 1<<32 - 1, 1<<31 - 1, 1<<31 + 1, true, false},
		{0, 1 << 31, 1 << 31, 1 << 31, false, true},
		{1<<32 - 1, 1 << 31, 1<<31 - 1, 1<<31 - 1, true, false},
		{1<<32 - 1, 1, 0, 1<<32 - 2, false, false},
		{1<<32 - 1, 1<<32 - 1, 1<<32 - 2, 0, false, false},
	} {
		if s, o := Add(x.a, x.b); s != x.sum || o != x.over {
			t.Error(i, "Add", s, o)
		}
		if d, o := Sub(x.a, x.b); d != x.dif || o != x.under {
			t.Error(i, "Sub", d, o)
		}
	}
}

// P1.1
func TestAddSubAtEdges(t *testing.T) {
	pairs(func(a, b uint32, signed bool) {
		if !signed {
			return
		}
		x, y := means(a, true), means(b, true)
		sum, dif := new(big.Int).Add(x, y), new(big.Int).Sub(x, y)
		if s, o := Add(a, b); s != word(sum) || o != outside(sum) {
			t.Error("Add", a, b, s, o)
		}
		if d, o := Sub(a, b); d != word(dif) || o != outside(dif) {
			t.Error("Sub", a, b, d, o)
		}
	})
}

// P1.2
func TestMulExamples(t *testing.T) {
	for i, x := range []struct {
		a, b      uint32
		signed    bool
		high, low uint32
	}{
		{6, 7, false, 0, 42},
		{6, 7, true, 0, 42},
		{0, 1<<32 - 1, true, 0, 0},
		{1<<32 - 1, 2, true, 1<<32 - 1, 1<<32 - 2},
		{1<<32 - 1, 2, false, 1, 1<<32 - 2},
		{1<<32 - 1, 1<<32 - 1, false, 1<<32 - 2, 1},
		{1<<32 - 1, 1<<32 - 1, true, 0, 1},
		{1 << 31, 1 << 31, true, 1 << 30, 0},
		{1 << 31, 1 << 31, false, 1 << 30, 0},
		{1 << 31, 1<<31 - 1, true, 0xc0000000, 1 << 31},
	} {
		if h, l := Mul(x.a, x.b, x.signed); h != x.high || l != x.low {
			t.Error(i, h, l)
		}
	}
}

// P1.2
func TestMulAtEdges(t *testing.T) {
	pairs(func(a, b uint32, signed bool) {
		p := new(big.Int).Mul(means(a, signed), means(b, signed))
		p.Mod(p, two64)
		high, low := word(new(big.Int).Rsh(p, 32)), word(p)
		if h, l := Mul(a, b, signed); h != high || l != low {
			t.Error(a, b, signed, h, l)
		}
	})
}

// P1.2
func TestDivExamples(t *testing.T) {
	for i, x := range []struct {
		a, b       uint32
		signed     bool
		quot, left uint32
	}{
		{7, 2, false, 3, 1},
		{7, 2, true, 3, 1},
		{1<<32 - 7, 2, true, 1<<32 - 3, 1<<32 - 1},
		{7, 1<<32 - 2, true, 1<<32 - 3, 1},
		{1<<32 - 7, 1<<32 - 2, true, 3, 1<<32 - 1},
		{7, 1<<32 - 2, false, 0, 7},
		{1 << 31, 1<<32 - 1, true, 1 << 31, 0},
		{1 << 31, 1<<32 - 1, false, 0, 1 << 31},
		{1<<32 - 1, 10, false, 429496729, 5},
		{1<<32 - 1, 1, false, 1<<32 - 1, 0},
		{0, 5, true, 0, 0},
	} {
		if q, r, e := Div(x.a, x.b, x.signed); q != x.quot || r != x.left || e != api.OK {
			t.Error(i, q, r, e)
		}
	}
}

// P1.2, R3
func TestDivByZero(t *testing.T) {
	for _, a := range edges() {
		for _, signed := range []bool{false, true} {
			if q, r, e := Div(a, 0, signed); q != 0 || r != 0 || e != api.ErrWordsZero {
				t.Error(a, signed, q, r, e)
			}
		}
	}
}

// P1.2
func TestDivAtEdges(t *testing.T) {
	pairs(func(a, b uint32, signed bool) {
		if b == 0 {
			return
		}
		quot, left := new(big.Int).QuoRem(means(a, signed), means(b, signed), new(big.Int))
		if q, r, e := Div(a, b, signed); q != word(quot) || r != word(left) || e != api.OK {
			t.Error(a, b, signed, q, r, e)
		}
	})
}

// P1.2
func TestLess(t *testing.T) {
	for i, x := range []struct {
		a, b         uint32
		plain, signs bool
	}{
		{1, 2, true, true},
		{2, 1, false, false},
		{2, 2, false, false},
		{1<<31 - 1, 1 << 31, true, false},
		{1 << 31, 1<<31 - 1, false, true},
		{1<<32 - 1, 0, false, true},
		{0, 1<<32 - 1, true, false},
		{1 << 31, 1<<32 - 1, true, true},
		{1<<32 - 1, 1<<32 - 1, false, false},
	} {
		if Less(x.a, x.b, false) != x.plain || Less(x.a, x.b, true) != x.signs {
			t.Error(i)
		}
	}
	pairs(func(a, b uint32, signed bool) {
		if Less(a, b, signed) != (means(a, signed).Cmp(means(b, signed)) < 0) {
			t.Error(a, b, signed)
		}
	})
}

// P1.3
func TestShiftExamples(t *testing.T) {
	for i, x := range []struct {
		kind int
		a    uint32
		n    int
		want uint32
	}{
		{api.ShiftLeft, 3, 4, 48},
		{api.ShiftLeft, 3, 31, 1 << 31},
		{api.ShiftLeft, 3, 32, 3},
		{api.ShiftLeft, 3, 33, 6},
		{api.ShiftLeft, 1, -1, 1 << 31},
		{api.ShiftLeft, 3, -32, 3},
		{api.ShiftLeft, 1, -33, 1 << 31},
		{api.ShiftRight, 1 << 31, 31, 1},
		{api.ShiftRight, 1<<32 - 1, 4, 0x0fffffff},
		{api.ShiftRight, 7, 1, 3},
		{api.ShiftArith, 1 << 31, 31, 1<<32 - 1},
		{api.ShiftArith, 1<<32 - 7, 1, 1<<32 - 4},
		{api.ShiftArith, 1<<31 - 1, 30, 1},
		{api.ShiftArith, 1 << 31, -31, 0xc0000000},
		{api.ShiftLeft, 1, math.MaxInt, 1 << 31},
		{api.ShiftLeft, 5, math.MinInt, 5},
		{api.ShiftRight, 1 << 31, math.MinInt + 1, 1 << 30},
	} {
		if w := Shift(x.kind, x.a, x.n); w != x.want {
			t.Error(i, w)
		}
	}
}

// modulo32 takes the remainder and lifts it above 0, so that it shares no masking with the package.
func modulo32(n int) uint {
	r := n % 32
	if r < 0 {
		r += 32
	}
	return uint(r)
}

// P1.3
func TestShiftAtEdges(t *testing.T) {
	for _, a := range edges() {
		for n := -100; n <= 100; n++ {
			by := modulo32(n)
			left := word(new(big.Int).Lsh(means(a, false), by))
			right := word(new(big.Int).Rsh(means(a, false), by))
			arith := word(new(big.Int).Rsh(means(a, true), by)) // big's Rsh rounds down
			if w := Shift(api.ShiftLeft, a, n); w != left {
				t.Error("left", a, n, w)
			}
			if w := Shift(api.ShiftRight, a, n); w != right {
				t.Error("right", a, n, w)
			}
			if w := Shift(api.ShiftArith, a, n); w != arith {
				t.Error("arith", a, n, w)
			}
		}
	}
}

// P1.3
func TestShiftOfNoKind(t *testing.T) {
	for _, kind := range []int{-1, -2, api.Shifts, api.Shifts + 1, 9, math.MinInt, math.MaxInt} {
		for _, a := range edges() {
			for _, n := range []int{-1, 0, 1, 31, 32} {
				if w := Shift(kind, a, n); w != a {
					t.Error(kind, a, n, w)
				}
			}
		}
	}
}

// P1.4
func TestExtExamples(t *testing.T) {
	for i, x := range []struct {
		a      uint32
		bits   int
		signed bool
		want   uint32
	}{
		{128, 8, true, 1<<32 - 128},
		{128, 8, false, 128},
		{127, 8, true, 127},
		{0x1ff, 8, true, 1<<32 - 1},
		{0x1ff, 8, false, 255},
		{0x17f, 8, true, 127},
		{1, 1, true, 1<<32 - 1},
		{1, 1, false, 1},
		{2, 1, true, 0},
		{0x18000, 16, true, 0xffff8000},
		{1 << 30, 31, true, 0xc0000000},
		{0xc0000000, 31, false, 1 << 30},
		{1 << 31, 31, true, 0},
	} {
		if w := Ext(x.a, x.bits, x.signed); w != x.want {
			t.Error(i, w)
		}
	}
}

// P1.4
func TestExtOfEachWidth(t *testing.T) {
	for _, a := range edges() {
		for n := 1; n <= 31; n++ {
			room := new(big.Int).Lsh(big.NewInt(1), uint(n))
			low := new(big.Int).Mod(means(a, false), room)
			if w := Ext(a, n, false); w != word(low) {
				t.Error(a, n, false, w)
			}
			if low.Bit(n-1) == 1 {
				low.Sub(low, room)
			}
			if w := Ext(a, n, true); w != word(low) {
				t.Error(a, n, true, w)
			}
		}
	}
}

// P1.4
func TestExtOfNoWidth(t *testing.T) {
	for _, bits := range []int{0, -1, -31, -32, 32, 33, 63, 64, 65, math.MinInt, math.MaxInt} {
		for _, a := range edges() {
			if Ext(a, bits, false) != a || Ext(a, bits, true) != a {
				t.Error(a, bits)
			}
		}
	}
}

// P1.4
func TestLead(t *testing.T) {
	for i, x := range []struct {
		a           uint32
		zeros, ones int
	}{
		{0, 32, 0},
		{1, 31, 0},
		{1<<31 - 1, 1, 0},
		{1 << 31, 0, 1},
		{0xf0000000, 0, 4},
		{0x0f000000, 4, 0},
		{1<<32 - 2, 0, 31},
		{1<<32 - 1, 0, 32},
	} {
		if z, o := Lead(x.a, false), Lead(x.a, true); z != x.zeros || o != x.ones {
			t.Error(i, z, o)
		}
	}
	for _, a := range edges() {
		if Lead(a, false) != 32-means(a, false).BitLen() || Lead(a, true) != 32-means(^a, false).BitLen() {
			t.Error(a)
		}
	}
}

// P1.5
func TestAddedIsTakenAwayAgain(t *testing.T) {
	pairs(func(a, b uint32, _ bool) {
		sum, _ := Add(a, b)
		if back, _ := Sub(sum, b); back != a {
			t.Error(a, b, back)
		}
		dif, _ := Sub(a, b)
		if back, _ := Add(dif, b); back != a {
			t.Error(a, b, back)
		}
	})
}

// P1.5
func TestQuotientAndRestMakeTheWhole(t *testing.T) {
	pairs(func(a, b uint32, signed bool) {
		if b == 0 {
			return
		}
		q, r, e := Div(a, b, signed)
		_, low := Mul(q, b, signed)
		if sum, _ := Add(low, r); e != api.OK || sum != a {
			t.Error(a, b, signed, q, r, e)
		}
	})
}

// P1.5
func TestShiftedLeftAndBackAreLowBits(t *testing.T) {
	for _, a := range edges() {
		for n := range 32 {
			up := Shift(api.ShiftLeft, a, n)
			if Shift(api.ShiftRight, up, n) != Ext(a, 32-n, false) {
				t.Error("right", a, n)
			}
			if Shift(api.ShiftArith, up, n) != Ext(a, 32-n, true) {
				t.Error("arith", a, n)
			}
		}
	}
}
