package crc

import (
	"strings"
	"testing"
)

// remainder divides in polynomials over one bit, bit by bit as one does on paper, so that the tests share no arithmetic with the package: what is divided is the text with sixteen zeros behind it, the sum to begin with laid over the first sixteen bits.
func remainder(sum uint16, s string) uint16 {
	var bits []byte
	for _, b := range []byte(s + "\x00\x00") {
		for n := 7; n >= 0; n-- {
			bits = append(bits, b>>n&1)
		}
	}
	for n := range 16 {
		bits[n] ^= byte(sum >> (15 - n) & 1)
	}
	for at := 0; at+16 < len(bits); at++ {
		if bits[at] == 1 {
			for _, power := range []int{16, 12, 5, 0} {
				bits[at+16-power] ^= 1
			}
		}
	}
	var left uint16
	for _, b := range bits[len(bits)-16:] {
		left = left<<1 | uint16(b)
	}
	return left
}

// begins are sums to go on from: the ends, each bit alone, and ordinary ones.
func begins() []uint16 {
	l := []uint16{0, 0xffff, 1, 7, 0x1021, 0x7fff, 0x8000, 0x8001, 0xff00, 0x00ff, 0x29b1, 0xdead}
	for n := range 16 {
		l = append(l, 1<<n)
	}
	return l
}

// long is a text in which each byte occurs, in an order that tells a mistaken place.
func long(n int) string {
	b := make([]byte, n)
	for i := range b {
		b[i] = byte(i*i + 7*i + i>>8)
	}
	return string(b)
}

// texts are those that the edges ask for, with ordinary ones between.
func texts() []string {
	l := []string{
		"", "123456789", "A", "abc", "\x00\x00", "\x00\xff", "\xff\x00", "\xff\xff",
		"\x00\x00\x00", "\xff\xff\xff", "\x80\x00", "\x00\x01", "\xff\xff\x00\x00",
		"zwölf Boxkämpfer", strings.Repeat("\x00", 300), strings.Repeat("\xff", 300),
		long(64), long(256), long(1000),
	}
	for b := range 256 {
		l = append(l, string([]byte{byte(b)}), string([]byte{byte(b), byte(255 - b)}))
	}
	return l
}

// P2.1
func TestSumExamples(t *testing.T) {
	for s, want := range map[string]uint16{
		"":                       0xffff,
		"123456789":              0x29b1,
		"A":                      0xb915,
		"\x00":                   0xe1f0,
		"\xff":                   0xff00,
		"\xff\xff":               0x0000,
		"\x00\x00":               0x1d0f,
		strings.Repeat("A", 256): 0xea0b,
	} {
		if n := Sum(s); n != want {
			t.Errorf("%q: %#x, not %#x", s, n, want)
		}
	}
}

// P2.1
func TestOnExamples(t *testing.T) {
	for _, x := range []struct {
		sum  uint16
		s    string
		want uint16
	}{
		{0, "", 0},
		{0xffff, "", 0xffff},
		{7, "", 7},
		{0, "\x00", 0},
		{0, "\x00\x00", 0},
		{0, "\x01", 0x1021},
		{0, "\xff", 0x1ef0},
		{0x0100, "\x01", 0},
		{0xff00, "\xff", 0},
		{0xffff, "\xff", 0xff00},
		{0x00ff, "\x00", 0xff00},
		{0, "123456789", 0x31c3},
		{0xffff, "123456789", 0x29b1},
	} {
		if n := On(x.sum, x.s); n != x.want {
			t.Errorf("%#x, %q: %#x, not %#x", x.sum, x.s, n, x.want)
		}
	}
}

// P2.1
func TestOnDivides(t *testing.T) {
	for _, s := range texts() {
		for _, sum := range begins() {
			if n, want := On(sum, s), remainder(sum, s); n != want {
				t.Fatalf("%#x, %q: %#x, not %#x", sum, s, n, want)
			}
		}
		if n, want := Sum(s), remainder(0xffff, s); n != want {
			t.Fatalf("%q: %#x, not %#x", s, n, want)
		}
	}
}

// P2.1: each sum, with bytes at the edges and one of its own, as the promise's words say it.
func TestOnOneByte(t *testing.T) {
	for sum := range 1 << 16 {
		for _, b := range []int{0, 1, 127, 128, 255, sum & 255} {
			want := sum ^ b*256
			for range 8 {
				want *= 2
				if want >= 1<<16 {
					want = (want - 1<<16) ^ 0x1021
				}
			}
			if n := On(uint16(sum), string([]byte{byte(b)})); int(n) != want {
				t.Fatalf("%#x, %d: %#x, not %#x", sum, b, n, want)
			}
		}
	}
}

// P2.2
func TestSealExamples(t *testing.T) {
	for s, want := range map[string]string{
		"":          "\xff\xff",
		"A":         "A\xb9\x15",
		"\x00":      "\x00\xe1\xf0",
		"\xff":      "\xff\xff\x00",
		"\xff\xff":  "\xff\xff\x00\x00",
		"123456789": "123456789\x29\xb1",
	} {
		if got := Seal(s); got != want {
			t.Errorf("%q: %q", s, got)
		}
	}
}

// P2.2
func TestSealOpens(t *testing.T) {
	for _, s := range texts() {
		n := remainder(0xffff, s)
		sealed := Seal(s)
		if sealed != s+string([]byte{byte(n >> 8), byte(n)}) {
			t.Fatalf("%q: %q", s, sealed)
		}
		if got, ok := Open(sealed); got != s || !ok {
			t.Fatalf("%q: %q, %v", s, got, ok)
		}
		twice := Seal(sealed)
		if got, ok := Open(twice); got != sealed || !ok {
			t.Fatalf("%q: %q, %v", twice, got, ok)
		}
	}
}

func refuses(t *testing.T, s string) {
	t.Helper()
	if got, ok := Open(s); got != "" || ok {
		t.Errorf("%q: %q, %v", s, got, ok)
	}
}

// P2.2: a text shorter than a sum is no sealed one.
func TestOpenShort(t *testing.T) {
	refuses(t, "")
	for b := range 256 {
		refuses(t, string([]byte{byte(b)}))
	}
}

// P2.2: of the texts of two bytes one alone is sealed, and of those with one byte more one for each byte.
func TestOpenEachSum(t *testing.T) {
	for sum := range 1 << 16 {
		tail := string([]byte{byte(sum >> 8), byte(sum)})
		if sum == 0xffff {
			if got, ok := Open(tail); got != "" || !ok {
				t.Errorf("nothing, sealed: %q, %v", got, ok)
			}
		} else {
			refuses(t, tail)
		}
		if sum != 0xb915 {
			refuses(t, "A"+tail)
		}
	}
}

// P2.2
func TestOpenWrong(t *testing.T) {
	for _, s := range []string{
		"x", "\xff\xfe", "\xfe\xff", "\x00\x00", "A\x15\xb9", "\xb9\x15A",
		"123456789", "123456789\x29\xb0", "123456789\xb1\x29", "123456789\x31\xc3", "123456789\x29", "123456789\x29\xb1\x01",
	} {
		refuses(t, s)
	}
	for _, s := range []string{"", "A", "\x00", "123456789", long(100)} {
		sealed := Seal(s)
		refuses(t, sealed[:len(sealed)-1])
		for bit := range 8 * len(sealed) {
			refuses(t, turned(sealed, bit, 1))
		}
	}
}

// turned is s with bits turned: those of pattern, its lowest bit at the place at, counted from a byte's highest bit on.
func turned(s string, at int, pattern uint32) string {
	b := []byte(s)
	for n := 0; pattern>>n != 0; n++ {
		if pattern>>n&1 == 1 {
			b[(at+n)/8] ^= 0x80 >> ((at + n) % 8)
		}
	}
	return string(b)
}

// P2.3
func TestOnOfBoth(t *testing.T) {
	for _, s := range []string{"", "A", "\x00", "\xff\xff", "123456789", long(300)} {
		for _, sum := range begins() {
			whole := On(sum, s)
			for cut := range len(s) + 1 {
				if n := On(On(sum, s[:cut]), s[cut:]); n != whole {
					t.Fatalf("%#x, %q, cut at %d: %#x, not %#x", sum, s, cut, n, whole)
				}
			}
		}
		for cut := range len(s) + 1 {
			if On(Sum(s[:cut]), s[cut:]) != Sum(s) {
				t.Fatalf("%q, cut at %d", s, cut)
			}
		}
	}
}

// P2.3
func TestSealedSumsToNothing(t *testing.T) {
	for _, s := range texts() {
		if n := Sum(Seal(s)); n != 0 {
			t.Errorf("%q: %#x", s, n)
		}
	}
}

// P2.3: each way in which sixteen bits one behind the other can differ, at each place of a text of five bytes.
func TestSumsDiffer(t *testing.T) {
	for _, s := range []string{"zoeTr", "\x00\x00\x00\x00\x00", "\xff\xff\xff\xff\xff"} {
		sum := Sum(s)
		for pattern := uint32(1); pattern < 1<<16; pattern += 2 {
			for at := 0; at+width(pattern) <= 8*len(s); at++ {
				if other := turned(s, at, pattern); Sum(other) == sum {
					t.Fatalf("%q, %q: %#x both", s, other, sum)
				}
			}
		}
	}
}

// P2.3: also in texts that are longer, and sealed: what was turned is told.
func TestSumsDifferInLongTexts(t *testing.T) {
	s := long(200)
	sum, sealed := Sum(s), Seal(s)
	for _, pattern := range []uint32{1, 3, 0x5, 0x8001, 0xffff, 0x8421, 0x1021, 0x8811, 0xaaab} {
		for at := 0; at+width(pattern) <= 8*len(s); at++ {
			if Sum(turned(s, at, pattern)) == sum {
				t.Fatalf("%#x at %d", pattern, at)
			}
		}
		for at := 0; at+width(pattern) <= 8*len(sealed); at++ {
			refuses(t, turned(sealed, at, pattern))
		}
	}
}

func width(pattern uint32) int {
	n := 0
	for pattern>>n != 0 {
		n++
	}
	return n
}
