package uart

import (
	"math/rand"
	"strings"
	"testing"

	"zoetrope/api"
)

const top = 1<<32 - 1

// model keeps all that ever happened, where the package keeps what is left of it: the bytes that were taken, how many of them were read, and the bytes written since Out was emptied.
type model struct {
	came, went []byte
	read       int
	on         bool
}

func (m *model) feed(c byte) bool {
	if len(m.came)-m.read == 16 {
		return false
	}
	m.came = append(m.came, c)
	return true
}

func (m *model) next() uint32 {
	if m.read == len(m.came) {
		return 0
	}
	m.read++
	return uint32(m.came[m.read-1])
}

func (m *model) uart() api.Uart {
	out := m.went
	if len(out) > 64 {
		out = out[len(out)-64:]
	}
	return api.Uart{In: string(m.came[m.read:]), Out: string(out), On: m.on}
}

// row are n bytes that differ from those beside them, with 0, 255 and such above 127 among them.
func row(n, from int) string {
	b := make([]byte, n)
	for i := range b {
		b[i] = byte(from + 85*i)
	}
	return string(b)
}

func someRows(most int) []string {
	rows := []string{"", "\x00", "\xff", "\x80", "a", "\xc3\xa9", "\x00\x01\x02", "\xff\x00\xff"}
	for _, n := range []int{2, most - 1, most} {
		rows = append(rows, row(n, 0), row(n, 97), strings.Repeat("\x00", n), strings.Repeat("\xff", n))
	}
	return rows
}

// someUarts are all kinds together: of each In and each Out, On and not.
func someUarts() []api.Uart {
	us := []api.Uart{}
	for _, in := range someRows(16) {
		for _, out := range someRows(64) {
			us = append(us, api.Uart{In: in, Out: out}, api.Uart{In: in, Out: out, On: true})
		}
	}
	return us
}

// tooFull are those that have more than a uart may.
func tooFull() []api.Uart {
	us := []api.Uart{}
	for _, n := range []int{17, 18, 64, 65, 66, 255, 256, 257, 300, 512, 1 << 16} {
		us = append(us, api.Uart{In: row(n, 1)}, api.Uart{Out: row(n, 1)}, api.Uart{In: row(n, 1), Out: row(n, 2), On: true})
	}
	return us
}

func someWords() []uint32 {
	ws := []uint32{0, 2, 3, 65, 127, 129, 254, 255, 257, 0x141, 0x1ff, 0xff00, 0xffffff00, 0x7fffffff, top - 1, top}
	for n := range 32 {
		ws = append(ws, 1<<n)
	}
	return ws
}

func noRegs() []uint32 {
	return []uint32{1, 2, 3, 5, 6, 7, 9, 10, 11, 12, 13, 16, 20, 24, 32, 255, 256, 260, 264, 1 << 16, 1<<16 + 4, 1 << 31, 1<<31 + 8, top - 7, top - 3, top}
}

func anyUart(r *rand.Rand) api.Uart {
	in, out := make([]byte, r.Intn(17)), make([]byte, r.Intn(65))
	r.Read(in)
	r.Read(out)
	return api.Uart{In: string(in), Out: string(out), On: r.Intn(2) == 1}
}

// P10.1: of the register 0 the first byte is read, and goes; nothing else changes.
func TestReadByte(t *testing.T) {
	for _, u := range someUarts() {
		want, left := uint32(0), u
		if len(u.In) > 0 {
			want, left.In = uint32(u.In[0]), u.In[1:]
		}
		if v, w, e := Read(u, 0); v != want || w != left || e != api.OK {
			t.Fatalf("Read(%#v, 0): %d, %#v, %d; wanted %d, %#v", u, v, w, e, want, left)
		}
	}
	for c := range 256 {
		for _, rest := range []string{"", "b", "\xff\x00"} {
			u := api.Uart{In: string([]byte{byte(c)}) + rest, Out: "o", On: true}
			if v, w, e := Read(u, 0); v != uint32(c) || w != (api.Uart{In: rest, Out: "o", On: true}) || e != api.OK {
				t.Fatalf("Read(%#v, 0): %d, %#v, %d", u, v, w, e)
			}
		}
	}
}

// P10.1: the registers 4 and 8 tell how many bytes there are, and change nothing.
func TestReadCounts(t *testing.T) {
	for in := range 17 {
		for out := range 65 {
			u := api.Uart{In: row(in, 3), Out: row(out, 5), On: (in+out)%2 == 0}
			if v, w, e := Read(u, 4); v != uint32(in) || w != u || e != api.OK {
				t.Fatalf("Read(%#v, 4): %d, %#v, %d", u, v, w, e)
			}
			if v, w, e := Read(u, 8); v != uint32(out) || w != u || e != api.OK {
				t.Fatalf("Read(%#v, 8): %d, %#v, %d", u, v, w, e)
			}
		}
	}
}

// P10.1: of another register there is an error, and nothing beside it.
func TestNoRegister(t *testing.T) {
	for _, u := range someUarts() {
		for _, reg := range noRegs() {
			if v, w, e := Read(u, reg); v != 0 || w != (api.Uart{}) || e != api.ErrUartForm {
				t.Fatalf("Read(%#v, %d): %d, %#v, %d", u, reg, v, w, e)
			}
			for _, v := range someWords() {
				if w, e := Write(u, reg, v); w != (api.Uart{}) || e != api.ErrUartForm {
					t.Fatalf("Write(%#v, %d, %d): %#v, %d", u, reg, v, w, e)
				}
			}
		}
	}
	if api.ErrUartForm != 100 {
		t.Error(api.ErrUartForm)
	}
}

// P10.1: each write changes what the chapter names, and nothing else.
func TestWrite(t *testing.T) {
	for _, u := range someUarts() {
		for _, v := range someWords() {
			out := u.Out + string([]byte{byte(v % 256)})
			if len(out) == 65 {
				out = out[1:]
			}
			for reg, want := range map[uint32]api.Uart{
				0: {In: u.In, Out: out, On: u.On},
				4: {In: u.In, Out: u.Out, On: v%2 == 1},
				8: {In: u.In, On: u.On},
			} {
				if w, e := Write(u, reg, v); w != want || e != api.OK {
					t.Fatalf("Write(%#v, %d, %d): %#v, %d; wanted %#v", u, reg, v, w, e, want)
				}
			}
		}
	}
}

// P10.1: the bytes themselves, so that the reckoning above is held, too.
func TestWriteTold(t *testing.T) {
	for _, x := range []struct {
		was  string
		v    uint32
		want string
	}{
		{"", 0, "\x00"},
		{"", 255, "\xff"},
		{"", 256, "\x00"},
		{"", 0x141, "A"},
		{"", top, "\xff"},
		{"a", 0x80, "a\x80"},
		{strings.Repeat("a", 63), 'b', strings.Repeat("a", 63) + "b"},
		{"x" + strings.Repeat("a", 63), 'b', strings.Repeat("a", 63) + "b"},
		{strings.Repeat("\x00", 64), 0, strings.Repeat("\x00", 64)},
	} {
		if u, e := Write(api.Uart{Out: x.was}, 0, x.v); u != (api.Uart{Out: x.want}) || e != api.OK {
			t.Errorf("%#v, then %d: %#v, %d", x.was, x.v, u, e)
		}
	}
}

// P10.2: a byte is put behind In, as long as there are fewer than 16.
func TestFeed(t *testing.T) {
	for _, u := range someUarts() {
		for c := range 256 {
			want, room := u, len(u.In) < 16
			if room {
				want.In = u.In + string([]byte{byte(c)})
			}
			if w, ok := Feed(u, byte(c)); w != want || ok != room {
				t.Fatalf("Feed(%#v, %d): %#v, %v", u, c, w, ok)
			}
		}
	}
}

// P10.2: it rings just if it is On with a byte In, whatever that is, and whatever went out.
func TestRing(t *testing.T) {
	for _, out := range someRows(64) {
		for _, in := range someRows(16) {
			if Ring(api.Uart{In: in, Out: out}) || Ring(api.Uart{In: in, Out: out, On: true}) != (len(in) > 0) {
				t.Fatalf("In %#v, Out %#v", in, out)
			}
		}
	}
	u, _ := Write(api.Uart{}, 4, 1)
	for n := range 5 {
		if Ring(u) {
			t.Errorf("%d: rings with nothing In", n)
		}
		u, _ = Feed(u, 0)
		if !Ring(u) {
			t.Errorf("%d: does not ring", n)
		}
		if off, _ := Write(u, 4, 2); Ring(off) {
			t.Errorf("%d: rings, though not On", n)
		}
		_, u, _ = Read(u, 0)
	}
}

// P10.3: the bytes themselves.
func TestText(t *testing.T) {
	for want, u := range map[string]api.Uart{
		"\x00\x00\x00":             {},
		"\x01\x00\x00":             {On: true},
		"\x00\x01a\x00":            {In: "a"},
		"\x00\x00\x01a":            {Out: "a"},
		"\x01\x02ab\x03cde":        {In: "ab", Out: "cde", On: true},
		"\x00\x01\x00\x01\xff":     {In: "\x00", Out: "\xff"},
		"\x01\x02\x80\xfe\x01\x00": {In: "\x80\xfe", Out: "\x00", On: true},
		"\x01\x10" + strings.Repeat("\xff", 16) + "\x40" + strings.Repeat("\x00", 64): {In: strings.Repeat("\xff", 16), Out: strings.Repeat("\x00", 64), On: true},
		"\x00\x0f" + strings.Repeat("i", 15) + "\x3f" + strings.Repeat("o", 63):       {In: strings.Repeat("i", 15), Out: strings.Repeat("o", 63)},
	} {
		if s := Text(u); s != want {
			t.Errorf("Text(%#v): %#v, wanted %#v", u, s, want)
		}
		if v, e := Parse(want); v != u || e != api.OK {
			t.Errorf("Parse(%#v): %#v, %d", want, v, e)
		}
	}
}

// P10.3: there and back.
func TestThereAndBack(t *testing.T) {
	r := rand.New(rand.NewSource(103))
	us := someUarts()
	for range 4000 {
		us = append(us, anyUart(r))
	}
	for _, u := range us {
		s := Text(u)
		if len(s) != 3+len(u.In)+len(u.Out) {
			t.Fatalf("%#v: %#v", u, s)
		}
		if v, e := Parse(s); v != u || e != api.OK {
			t.Fatalf("%#v: %#v, %d", u, v, e)
		}
	}
}

// mayBe tells by the places of the counts alone whether s is a uart's text.
func mayBe(s string) bool {
	if len(s) < 3 || s[0] > 1 || s[1] > 16 || len(s) < 3+int(s[1]) {
		return false
	}
	out := s[2+s[1]]
	return out <= 64 && len(s) == 3+int(s[1])+int(out)
}

func holdParse(t *testing.T, s string) {
	t.Helper()
	u, e := Parse(s)
	if mayBe(s) {
		if e != api.OK || Text(u) != s || len(u.In) > 16 || len(u.Out) > 64 {
			t.Fatalf("Parse(%#v): %#v, %d", s, u, e)
		}
		return
	}
	if u != (api.Uart{}) || e != api.ErrUartForm {
		t.Fatalf("Parse(%#v): %#v, %d; wanted an error alone", s, u, e)
	}
}

// P10.3: a text that ends early, one with a byte more, one with another first byte or other counts.
func TestParseNear(t *testing.T) {
	for _, u := range someUarts() {
		s := Text(u)
		for n := range len(s) {
			if _, e := Parse(s[:n]); e != api.ErrUartForm {
				t.Fatalf("Parse(%#v): %d", s[:n], e)
			}
			holdParse(t, s[:n])
			holdParse(t, s[n+1:])
		}
		for _, more := range []string{"\x00", "\x01", "x", "\xff", s} {
			if _, e := Parse(s + more); e != api.ErrUartForm {
				t.Fatalf("Parse(%#v): %d", s+more, e)
			}
			holdParse(t, more+s)
		}
		for _, at := range []int{0, 1, 2 + len(u.In)} {
			b := []byte(s)
			for c := range 256 {
				b[at] = byte(c)
				holdParse(t, string(b))
			}
		}
	}
}

// P10.3: what each of these is refused for is that alone.
func TestParseWrong(t *testing.T) {
	in, out := row(17, 9), row(65, 9)
	for _, s := range []string{
		"", "\x00", "\x01", "\x02", "\x00\x00", "\x01\x00",
		"\x02\x00\x00", "\xff\x00\x00", "\x80\x00\x00", "0\x00\x00",
		"\x00\x01\x00", "\x00\x00\x01", "\x00\x02a\x00", "\x00\x00\x02a",
		"\x00\x00\x00\x00", "\x00\x00a\x00", "\x00\x00\x00a", "\x00\x01ab\x00", "\x00\x00\x01ab",
		"\x00\x11" + in + "\x00", "\x01\x11" + in + "\x01a", "\x00\x00\x41" + out, "\x01\x10" + in[:16] + "\x41" + out,
		"\x00\xff" + row(255, 0) + "\x00", "\x00\x00\xff" + row(255, 0), "\x00\x11" + in + "\x41" + out,
		"\x00\x10" + in[:15], "\x00\x10" + in[:16], "\x00\x10" + in + "\x00", "\x00\x0f" + in[:16] + "\x00",
		"\x00\x00\x40" + out[:63], "\x00\x00\x40" + out, "\x00\x00\x3f" + out[:64],
	} {
		if u, e := Parse(s); u != (api.Uart{}) || e != api.ErrUartForm {
			t.Errorf("Parse(%#v): %#v, %d", s, u, e)
		}
	}
}

// P10.3: all short texts of few bytes, and any of any length.
func TestParseAny(t *testing.T) {
	short := []string{""}
	for i := 0; i < len(short) && len(short[i]) < 7; i++ {
		for _, c := range []string{"\x00", "\x01", "\x02", "\x03"} {
			short = append(short, short[i]+c)
		}
	}
	for _, s := range short {
		holdParse(t, s)
	}
	for _, c := range []string{"\x00", "\x01", "\x10", "\x40", "a", "\xff"} {
		for n := range 400 {
			holdParse(t, strings.Repeat(c, n))
		}
		holdParse(t, strings.Repeat(c, 1<<16))
	}
	r := rand.New(rand.NewSource(104))
	for range 40000 {
		b := make([]byte, r.Intn(100))
		r.Read(b)
		if len(b) > 1 {
			b[0] = byte(r.Intn(3))
			b[1] = byte(r.Intn(20))
		}
		if len(b) > 2 && 2+int(b[1]) < len(b) {
			b[2+int(b[1])] = byte(len(b) - 4 - int(b[1]) + r.Intn(3))
		}
		holdParse(t, string(b))
	}
}

// P10.4: what comes in is read in order, each byte once, whatever stands between.
func TestReadInOrder(t *testing.T) {
	for n := range 40 {
		u := api.Uart{}
		taken := min(n, 16)
		for i := range n {
			var ok bool
			if u, ok = Feed(u, byte(250+i)); ok != (i < 16) {
				t.Fatalf("byte %d of %d: %v", i, n, ok)
			}
		}
		for i := range n {
			v, w, e := Read(u, 0)
			want := uint32(0)
			if i < taken {
				want = uint32(byte(250 + i))
			}
			if v != want || e != api.OK || len(w.In) != max(taken-i-1, 0) {
				t.Fatalf("byte %d of %d: %d, %#v, %d", i, n, v, w, e)
			}
			u = w
		}
	}
}

// P10.4: Out has the last 64 bytes that were written since it was emptied.
func TestLastWritten(t *testing.T) {
	for round := range 3 {
		u := api.Uart{In: "in", On: true}
		if round > 0 {
			u.Out = row(64*round/2, 7)
			u, _ = Write(u, 8, uint32(round))
		}
		all := row(300, round)
		for i := range 300 {
			u, _ = Write(u, 0, uint32(all[i])+256*uint32(i))
			if want := all[max(0, i-63) : i+1]; u != (api.Uart{In: "in", Out: want, On: true}) {
				t.Fatalf("behind %d bytes: %#v, wanted Out %#v", i+1, u, want)
			}
			if n, _, e := Read(u, 8); n != uint32(min(i+1, 64)) || e != api.OK {
				t.Fatalf("behind %d bytes: %d, %d", i+1, n, e)
			}
		}
		if u, _ = Write(u, 8, 0); u != (api.Uart{In: "in", On: true}) {
			t.Errorf("%#v", u)
		}
	}
}

// anyCall makes one call on both, and tells whether they answered the same.
func anyCall(r *rand.Rand, u *api.Uart, m *model) bool {
	same := true
	v := r.Uint32() >> r.Intn(32)
	switch n := r.Intn(100); {
	case n < 35:
		w, ok := Feed(*u, byte(v))
		*u, same = w, ok == m.feed(byte(v))
	case n < 65:
		c, w, e := Read(*u, 0)
		*u, same = w, c == m.next() && e == api.OK
	case n < 90:
		*u, _ = Write(*u, 0, v)
		m.went = append(m.went, byte(v))
	case n < 94:
		*u, _ = Write(*u, 4, v)
		m.on = v%2 == 1
	case n < 95:
		*u, _ = Write(*u, 8, v)
		m.went = nil
	default:
		*u, _ = Parse(Text(*u))
	}
	return same
}

// P10.1 to P10.4: any calls behind one another, each held against all that happened.
func TestAnyOrder(t *testing.T) {
	r := rand.New(rand.NewSource(105))
	for range 60 {
		u, m := api.Uart{}, model{}
		for range 1000 {
			same := anyCall(r, &u, &m)
			if want := m.uart(); !same || u != want || Ring(u) != (m.on && m.read < len(m.came)) {
				t.Fatalf("%#v, wanted %#v", u, want)
			}
		}
	}
}

// R1: of a uart with more than it may have calls end, those of its Text, too.
func TestTooFull(t *testing.T) {
	for _, u := range tooFull() {
		for _, reg := range append(noRegs(), 0, 4, 8) {
			Read(u, reg)
			for _, v := range someWords() {
				Write(u, reg, v)
			}
		}
		for c := range 256 {
			Feed(u, byte(c))
		}
		Ring(u)
		holdParse(t, Text(u))
	}
}

// The chapter's examples.
func TestExamples(t *testing.T) {
	u, one := Feed(api.Uart{}, 'a')
	u, two := Feed(u, 'b')
	if !one || !two || u != (api.Uart{In: "ab"}) {
		t.Errorf("%#v", u)
	}
	for _, want := range []uint32{97, 98, 0, 0} {
		c, v, e := Read(u, 0)
		if c != want || e != api.OK {
			t.Errorf("%d, %d; wanted %d", c, e, want)
		}
		u = v
	}
	if u, e := Write(u, 0, 0x141); u != (api.Uart{Out: "A"}) || e != api.OK {
		t.Errorf("%#v, %d", u, e)
	}
}
