package rng

import (
	"math"
	"math/big"
	"testing"

	"zoetrope/api"
)

// whole is a complex number of parts without bound, so that the tests share no arithmetic with the package.
type whole struct{ re, im *big.Int }

func wholeOf(re, im int) whole {
	return whole{big.NewInt(int64(re)), big.NewInt(int64(im))}
}

func (a whole) plus(b whole) whole {
	return whole{new(big.Int).Add(a.re, b.re), new(big.Int).Add(a.im, b.im)}
}

func (a whole) times(b whole) whole {
	mul := func(x, y *big.Int) *big.Int { return new(big.Int).Mul(x, y) }
	return whole{
		new(big.Int).Sub(mul(a.re, b.re), mul(a.im, b.im)),
		new(big.Int).Add(mul(a.re, b.im), mul(a.im, b.re)),
	}
}

// low takes the parts modulo 65521, as Euclid does: never below 0.
func (a whole) low() (int, int) {
	m := big.NewInt(65521)
	return int(new(big.Int).Mod(a.re, m).Int64()), int(new(big.Int).Mod(a.im, m).Int64())
}

func placed(z, added whole) api.Rng {
	var g api.Rng
	g.Re, g.Im = z.low()
	g.AddRe, g.AddIm = added.low()
	return g
}

func parts(g api.Rng) (z, added whole) {
	return wholeOf(g.Re, g.Im), wholeOf(g.AddRe, g.AddIm)
}

func wantLow(g api.Rng) api.Rng { return placed(parts(g)) }

func wantNext(g api.Rng) (uint32, api.Rng) {
	z, added := parts(g)
	h := placed(z.times(z).plus(added), added)
	return uint32(h.Re + 65536*h.Im), h
}

func wantStir(g api.Rng, n uint32) api.Rng {
	z, added := parts(g)
	return placed(z.plus(wholeOf(int(n)%65536, int(n)/65536)), added)
}

func wantSkip(g api.Rng, n int) api.Rng {
	g = wantLow(g)
	for range n {
		_, g = wantNext(g)
	}
	return g
}

// edges are parts within and beyond the bounds, the ends of the type among them.
func edges() []int {
	return []int{
		0, 1, 2, 32760, 32761, 65519, 65520,
		65521, 65522, 65535, 65536, 131041, 131042, 131043, 1 << 32, 1<<53 + 1, math.MaxInt - 1, math.MaxInt,
		-1, -2, -65520, -65521, -65522, -65536, -131042, -1<<53 - 1, math.MinInt + 1, math.MinInt,
	}
}

// places are each pair of edges as z and as what is added, and ordinary places.
func places() []api.Rng {
	l := []api.Rng{{Re: 3, Im: 2, AddRe: 1, AddIm: 65520}, {Re: 40000, Im: 50000, AddRe: 12345, AddIm: 6789}}
	for i, re := range edges() {
		for j, im := range edges() {
			a, b := edges()[(i+3*j+1)%len(edges())], edges()[(5*i+j+2)%len(edges())]
			l = append(l, api.Rng{Re: re, Im: im, AddRe: a, AddIm: b}, api.Rng{Re: b, Im: a, AddRe: re, AddIm: im})
		}
	}
	return l
}

// words are those of which each half is at an edge, and ordinary ones.
func words() []uint32 {
	l := []uint32{7, 0xdeadbeef, 0x12345678}
	halves := []uint32{0, 1, 2, 32767, 32768, 65519, 65520, 65521, 65522, 65534, 65535}
	for _, high := range halves {
		for _, low := range halves {
			l = append(l, high<<16|low)
		}
	}
	return l
}

func told(t *testing.T, g api.Rng) {
	t.Helper()
	for _, n := range []int{g.Re, g.Im, g.AddRe, g.AddIm} {
		if n < 0 || n > 65520 {
			t.Errorf("%v: a part beyond the bounds", g)
		}
	}
}

// P3.1
func TestSeedExamples(t *testing.T) {
	for n, want := range map[uint32]api.Rng{
		0:             {Re: 0, Im: 0},
		1:             {Re: 1, Im: 0},
		65520:         {Re: 65520, Im: 0},
		65521:         {Re: 0, Im: 0},
		65535:         {Re: 14, Im: 0},
		65536:         {Re: 0, Im: 1},
		65520 << 16:   {Re: 0, Im: 65520},
		65521 << 16:   {Re: 0, Im: 0},
		65535 << 16:   {Re: 0, Im: 14},
		0xfff0_fff1:   {Re: 0, Im: 65520},
		0xfff1_fff0:   {Re: 65520, Im: 0},
		0x0002_0003:   {Re: 3, Im: 2},
		4_294_967_295: {Re: 14, Im: 14},
	} {
		want.AddRe, want.AddIm = 12345, 6789
		if g := Seed(n); g != want {
			t.Errorf("%d: %v, not %v", n, g, want)
		}
	}
}

// P3.1
func TestSeedEachHalf(t *testing.T) {
	for n := range 65536 {
		for _, other := range []int{0, 1, 65520, 65521, 65535} {
			low := api.Rng{Re: n % 65521, Im: other % 65521, AddRe: 12345, AddIm: 6789}
			if g := Seed(uint32(other*65536 + n)); g != low {
				t.Fatalf("%d, %d: %v", other, n, g)
			}
			high := api.Rng{Re: other % 65521, Im: n % 65521, AddRe: 12345, AddIm: 6789}
			if g := Seed(uint32(n*65536 + other)); g != high {
				t.Fatalf("%d, %d: %v", n, other, g)
			}
		}
	}
}

// P3.2
func TestNextExamples(t *testing.T) {
	for _, x := range []struct {
		g    api.Rng
		word uint32
		want api.Rng
	}{
		{api.Rng{}, 0, api.Rng{}},
		{api.Rng{AddRe: 12345, AddIm: 6789}, 12345 + 65536*6789, api.Rng{Re: 12345, Im: 6789, AddRe: 12345, AddIm: 6789}},
		{api.Rng{Re: 3, Im: 2}, 5 + 65536*12, api.Rng{Re: 5, Im: 12}},
		{api.Rng{Re: 2, Im: 3}, 65516 + 65536*12, api.Rng{Re: 65516, Im: 12}},
		{api.Rng{Re: 3, Im: 2, AddRe: 65516, AddIm: 65509}, 0, api.Rng{AddRe: 65516, AddIm: 65509}},
		{api.Rng{Im: 1}, 65520, api.Rng{Re: 65520}},
		{api.Rng{Re: 65520}, 1, api.Rng{Re: 1}},
		{api.Rng{Im: 65520}, 65520, api.Rng{Re: 65520}},
		{api.Rng{Re: 65520, Im: 65520}, 65536 * 2, api.Rng{Im: 2}},
		{api.Rng{Re: 32761, Im: 1, AddIm: 65519}, 49140 + 65536*65520, api.Rng{Re: 49140, Im: 65520, AddIm: 65519}},
		{api.Rng{AddRe: 65520, AddIm: 65520}, 65520 + 65536*65520, api.Rng{Re: 65520, Im: 65520, AddRe: 65520, AddIm: 65520}},
		{api.Rng{Re: -1, Im: 65521, AddRe: -65521, AddIm: 65521}, 1, api.Rng{Re: 1}},
		{api.Rng{AddRe: -1, AddIm: -65522}, 65520 + 65536*65520, api.Rng{Re: 65520, Im: 65520, AddRe: 65520, AddIm: 65520}},
	} {
		if word, g := Next(x.g); word != x.word || g != x.want {
			t.Errorf("%v: %d, %v, not %d, %v", x.g, word, g, x.word, x.want)
		}
	}
}

// P3.2
func TestNextAtEdges(t *testing.T) {
	for _, g := range places() {
		word, h := Next(g)
		if n, want := wantNext(g); word != n || h != want {
			t.Fatalf("%v: %d, %v, not %d, %v", g, word, h, n, want)
		}
	}
}

// P3.2: each part alone, with the other at an edge.
func TestNextEachPart(t *testing.T) {
	for n := range 65521 {
		for _, other := range []int{0, 1, 65520} {
			square := n*n - other*other + 65521*65521
			re, im := square%65521, (2*n*other+65520)%65521
			want := api.Rng{Re: re, Im: im, AddIm: 65520}
			if word, g := Next(api.Rng{Re: n, Im: other, AddIm: 65520}); int(word) != re+65536*im || g != want {
				t.Fatalf("%d, %d: %d, %v, not %v", n, other, word, g, want)
			}
		}
	}
}

// P3.2
func TestRows(t *testing.T) {
	for n, want := range map[uint32][]uint32{
		0:             {444936249, 1604432603, 1891946272, 4113745706, 2800948884},
		1:             {444936250, 2494239581, 3525704798, 2381717991, 3968748678},
		7:             {444936298, 2267099947, 3489985135, 622479591, 3966718163},
		0xfff0_fff1:   {444936248, 714560106, 3069477577, 710105661, 1639661592},
		4_294_967_295: {470626361, 383589998, 3723658321, 2413745190, 2045637119},
	} {
		g := Seed(n)
		for i := range want {
			var word uint32
			if word, g = Next(g); word != want[i] {
				t.Errorf("%d: the word at %d: %d, not %d", n, i, word, want[i])
			}
		}
	}
}

// P3.2
func TestStirExamples(t *testing.T) {
	for _, x := range []struct {
		g    api.Rng
		n    uint32
		want api.Rng
	}{
		{api.Rng{}, 0, api.Rng{}},
		{api.Rng{Re: 3, Im: 4, AddRe: 5, AddIm: 6}, 0, api.Rng{Re: 3, Im: 4, AddRe: 5, AddIm: 6}},
		{api.Rng{Re: 3, Im: 4, AddRe: 5, AddIm: 6}, 65536*20 + 10, api.Rng{Re: 13, Im: 24, AddRe: 5, AddIm: 6}},
		{api.Rng{Re: 65520, Im: 65520}, 65536 + 1, api.Rng{}},
		{api.Rng{Re: 65520, Im: 65520}, 65536*65535 + 65535, api.Rng{Re: 13, Im: 13}},
		{api.Rng{}, 65536*65520 + 65521, api.Rng{Im: 65520}},
		{api.Rng{}, 65536*65521 + 65520, api.Rng{Re: 65520}},
		{api.Rng{}, 4_294_967_295, api.Rng{Re: 14, Im: 14}},
		{api.Rng{Re: -3, Im: -1, AddRe: -1, AddIm: 65521}, 2, api.Rng{Re: 65520, Im: 65520, AddRe: 65520}},
	} {
		if g := Stir(x.g, x.n); g != x.want {
			t.Errorf("%v, %d: %v, not %v", x.g, x.n, g, x.want)
		}
	}
}

// P3.2
func TestStirAtEdges(t *testing.T) {
	for _, g := range places() {
		for _, n := range words() {
			if h, want := Stir(g, n), wantStir(g, n); h != want {
				t.Fatalf("%v, %d: %v, not %v", g, n, h, want)
			}
		}
	}
}

// P3.2: what Skip answers of an n without Nexts is the place with its parts modulo M.
func TestSkipNone(t *testing.T) {
	for _, g := range places() {
		for _, n := range []int{0, -1, -5, -1000, -1001, math.MinInt + 1, math.MinInt} {
			if h, want := Skip(g, n), wantLow(g); h != want {
				t.Fatalf("%v, %d: %v, not %v", g, n, h, want)
			}
		}
	}
}

// P3.2
func TestSkipAtEdges(t *testing.T) {
	for _, g := range places() {
		for _, n := range []int{1, 2, 3} {
			if h, want := Skip(g, n), wantSkip(g, n); h != want {
				t.Fatalf("%v, %d: %v, not %v", g, n, h, want)
			}
		}
	}
}

// P3.2
func TestSkipEachCount(t *testing.T) {
	for _, g := range []api.Rng{Seed(0), Seed(7), Seed(1<<32 - 1), {Re: -1, Im: math.MaxInt, AddRe: math.MinInt, AddIm: 65521}} {
		want := wantLow(g)
		for n := range 1001 {
			if h := Skip(g, n); h != want {
				t.Fatalf("%v, %d: %v, not %v", g, n, h, want)
			}
			_, want = wantNext(want)
		}
	}
}

// P3.2
func TestSkipTooMany(t *testing.T) {
	for n, want := range map[uint32]api.Rng{
		0:             {Re: 50628, Im: 21289},
		1:             {Re: 24733, Im: 1268},
		7:             {Re: 19873, Im: 62345},
		0xfff0_fff1:   {Re: 46346, Im: 51156},
		4_294_967_295: {Re: 7487, Im: 43920},
	} {
		want.AddRe, want.AddIm = 12345, 6789
		for _, skips := range []int{1000, 1001, 1002, 2000, 1 << 32, math.MaxInt - 1, math.MaxInt} {
			if g := Skip(Seed(n), skips); g != want {
				t.Errorf("%d, %d: %v, not %v", n, skips, g, want)
			}
		}
	}
}

// P3.3: asked again, and from parts that are the same modulo M, a row is the same one.
func TestOneRow(t *testing.T) {
	for _, seed := range words() {
		g := Seed(seed)
		h := api.Rng{Re: g.Re - 65521, Im: g.Im + 65521, AddRe: g.AddRe + 65521*65521, AddIm: g.AddIm - 131042}
		for n := range 20 {
			a, next := Next(g)
			b, again := Next(g)
			c, beside := Next(h)
			if a != b || a != c || next != again || next != beside {
				t.Fatalf("%d, the word at %d: %d, %d, %d", seed, n, a, b, c)
			}
			if Stir(g, seed) != Stir(h, seed) {
				t.Fatalf("%v, %v: stirred they differ", g, h)
			}
			g, h = next, beside
		}
	}
}

// P3.3
func TestSkipInTwoGoes(t *testing.T) {
	for _, g := range []api.Rng{Seed(0), Seed(1<<32 - 1), Stir(Seed(7), 0xdeadbeef), {Re: math.MinInt, Im: -1, AddRe: 65520, AddIm: math.MaxInt}} {
		for _, all := range []int{0, 1, 2, 100, 999, 1000} {
			whole := Skip(g, all)
			for first := 0; first <= all; first += 1 + all/50 {
				if h := Skip(Skip(g, first), all-first); h != whole {
					t.Fatalf("%v, %d and %d: %v, not %v", g, first, all-first, h, whole)
				}
			}
			if h := Skip(Skip(g, all), -3); h != whole {
				t.Fatalf("%v, %d: %v, not %v", g, all, h, whole)
			}
		}
	}
}

// P3.3
func TestPartsWithinBounds(t *testing.T) {
	for _, n := range words() {
		told(t, Seed(n))
	}
	for _, g := range places() {
		_, h := Next(g)
		told(t, h)
		for _, n := range words() {
			told(t, Stir(g, n))
		}
		for _, n := range []int{math.MinInt, -1, 0, 1, 7} {
			told(t, Skip(g, n))
		}
	}
	told(t, Skip(places()[0], math.MaxInt))
}
