package timer

import (
	"encoding/binary"
	"math"
	"math/big"
	"math/rand"
	"strings"
	"testing"

	"zoetrope/api"
)

const top = 1<<32 - 1

// modelTick tells the chapter's words of one step.
func modelTick(t api.Timer) api.Timer {
	switch {
	case t.Every == 0:
	case t.Left > 1:
		t.Left--
	default:
		t.Left, t.Ring = t.Every, true
	}
	return t
}

// modelTicks tells many steps by another way than the package: a timer's steps are counted from the ring that came ahead of them.
func modelTicks(t api.Timer, n int) api.Timer {
	if n > 1<<40 {
		n = 1 << 40
	}
	if n < 0 {
		n = 0
	}
	if n == 0 || t.Every == 0 {
		return t
	}
	gone, every := big.NewInt(int64(n)), big.NewInt(int64(t.Every))
	if t.Left > 0 {
		gone.Sub(gone, big.NewInt(int64(t.Left)))
	} else {
		gone.Sub(gone, big.NewInt(1))
	}
	if gone.Sign() < 0 {
		t.Left = uint32(-gone.Int64())
		return t
	}
	t.Left, t.Ring = uint32(every.Int64()-gone.Mod(gone, every).Int64()), true
	return t
}

func modelText(t api.Timer) string {
	b := binary.BigEndian.AppendUint32(nil, t.Every)
	b = binary.BigEndian.AppendUint32(b, t.Left)
	if t.Ring {
		return string(b) + "\x01"
	}
	return string(b) + "\x00"
}

func edgeWords() []uint32 {
	ws := []uint32{0, 2, 3, 5, 6, 7, 9, 100, 0xff, 0x01020304, 0xff00ff00, 0x00ff00ff, 1<<31 - 1, 1<<31 + 1, top - 1, top}
	for n := range 32 {
		ws = append(ws, 1<<n)
	}
	return ws
}

func noRegs() []uint32 {
	return []uint32{1, 2, 3, 5, 6, 7, 9, 10, 11, 12, 13, 16, 24, 32, 255, 256, 260, 264, 1 << 16, 1<<16 + 4, 1 << 31, 1<<31 + 8, top - 7, top - 3, top}
}

// someTimers are all kinds together: of each Every and each Left, ringing and not.
func someTimers() []api.Timer {
	ts := []api.Timer{}
	for _, e := range []uint32{0, 1, 2, 3, 7, 1000, 1 << 31, top} {
		for _, l := range []uint32{0, 1, 2, 3, 6, 7, 8, 1001, 1 << 31, top - 1, top} {
			ts = append(ts, api.Timer{Every: e, Left: l}, api.Timer{Every: e, Left: l, Ring: true})
		}
	}
	return ts
}

func anyTimer(r *rand.Rand) api.Timer {
	word := func() uint32 {
		if r.Intn(2) == 0 {
			return uint32(r.Intn(20))
		}
		return r.Uint32() >> r.Intn(32)
	}
	return api.Timer{Every: word(), Left: word(), Ring: r.Intn(2) == 1}
}

func holdTicks(t *testing.T, a api.Timer, n int) {
	t.Helper()
	if b, want := Ticks(a, n), modelTicks(a, n); b != want {
		t.Fatalf("Ticks(%+v, %d): %+v, wanted %+v", a, n, b, want)
	}
}

// P9.1: each of the three registers is read; a ring is 1, none 0.
func TestRead(t *testing.T) {
	for _, a := range someTimers() {
		rings := uint32(0)
		if a.Ring {
			rings = 1
		}
		for reg, want := range map[uint32]uint32{0: a.Every, 4: a.Left, 8: rings} {
			if v, e := Read(a, reg); v != want || e != api.OK {
				t.Errorf("Read(%+v, %d): %d, %d; wanted %d", a, reg, v, e, want)
			}
		}
	}
}

// P9.1: of another register there is an error, and nothing beside it.
func TestNoRegister(t *testing.T) {
	for _, a := range someTimers() {
		for _, reg := range noRegs() {
			if v, e := Read(a, reg); v != 0 || e != api.ErrTimerForm {
				t.Fatalf("Read(%+v, %d): %d, %d", a, reg, v, e)
			}
			for _, v := range edgeWords() {
				if b, e := Write(a, reg, v); b != (api.Timer{}) || e != api.ErrTimerForm {
					t.Fatalf("Write(%+v, %d, %d): %+v, %d", a, reg, v, b, e)
				}
			}
		}
	}
	if api.ErrTimerForm != 90 {
		t.Error(api.ErrTimerForm)
	}
}

// P9.1: each write changes what the chapter names, and nothing else.
func TestWrite(t *testing.T) {
	for _, a := range someTimers() {
		for _, v := range edgeWords() {
			for reg, want := range map[uint32]api.Timer{
				0: {Every: v, Left: v, Ring: a.Ring},
				4: {Every: a.Every, Left: v, Ring: a.Ring},
				8: {Every: a.Every, Left: a.Left},
			} {
				if b, e := Write(a, reg, v); b != want || e != api.OK {
					t.Fatalf("Write(%+v, %d, %d): %+v, %d; wanted %+v", a, reg, v, b, e, want)
				}
			}
		}
	}
}

// P9.2: one step, by numbers and by the model.
func TestTick(t *testing.T) {
	for _, x := range []struct{ a, want api.Timer }{
		{api.Timer{}, api.Timer{}},
		{api.Timer{Left: 5}, api.Timer{Left: 5}},
		{api.Timer{Left: 1, Ring: true}, api.Timer{Left: 1, Ring: true}},
		{api.Timer{Every: 1}, api.Timer{Every: 1, Left: 1, Ring: true}},
		{api.Timer{Every: 1, Left: 1}, api.Timer{Every: 1, Left: 1, Ring: true}},
		{api.Timer{Every: 1, Left: 2}, api.Timer{Every: 1, Left: 1}},
		{api.Timer{Every: 3}, api.Timer{Every: 3, Left: 3, Ring: true}},
		{api.Timer{Every: 3, Left: 1}, api.Timer{Every: 3, Left: 3, Ring: true}},
		{api.Timer{Every: 3, Left: 2}, api.Timer{Every: 3, Left: 1}},
		{api.Timer{Every: 3, Left: 9}, api.Timer{Every: 3, Left: 8}},
		{api.Timer{Every: 3, Left: 2, Ring: true}, api.Timer{Every: 3, Left: 1, Ring: true}},
		{api.Timer{Every: top, Left: top}, api.Timer{Every: top, Left: top - 1}},
		{api.Timer{Every: top, Left: 1}, api.Timer{Every: top, Left: top, Ring: true}},
		{api.Timer{Every: top}, api.Timer{Every: top, Left: top, Ring: true}},
	} {
		if b := Tick(x.a); b != x.want {
			t.Errorf("Tick(%+v): %+v, wanted %+v", x.a, b, x.want)
		}
	}
	for _, a := range someTimers() {
		if b := Tick(a); b != modelTick(a) {
			t.Errorf("Tick(%+v): %+v", a, b)
		}
	}
}

// P9.2: many steps at once are those steps one by one.
func TestTicksAreTicks(t *testing.T) {
	for e := range uint32(9) {
		for l := range uint32(20) {
			for _, rings := range []bool{false, true} {
				a := api.Timer{Every: e, Left: l, Ring: rings}
				one, told := a, a
				for n := range 60 {
					if b := Ticks(a, n); b != told || one != told {
						t.Fatalf("Ticks(%+v, %d): %+v, by Tick %+v, wanted %+v", a, n, b, one, told)
					}
					one, told = Tick(one), modelTick(told)
				}
			}
		}
	}
}

// P9.2: Ticks about the first ring, and about the ends of whole rounds behind it.
func TestTicksEdges(t *testing.T) {
	for _, a := range someTimers() {
		l, e := int(a.Left), int(a.Every)
		for _, n := range []int{0, 1, 2, l - 1, l, l + 1, e - 1, e, e + 1} {
			holdTicks(t, a, n)
		}
		for _, rounds := range []int{1, 2, 3, 10, 100, 255, 256} {
			for near := -1; near <= 1; near++ {
				holdTicks(t, a, rounds*e+near)
				holdTicks(t, a, l+rounds*e+near)
			}
		}
	}
}

// P9.2: below 0 none; above 2^40 as of 2^40.
func TestTicksBeyond(t *testing.T) {
	for _, a := range someTimers() {
		for _, n := range []int{-1, -2, -7, -1 << 31, -1 << 32, -1 << 40, -1<<40 - 1, math.MinInt + 1, math.MinInt} {
			if b := Ticks(a, n); b != a {
				t.Errorf("Ticks(%+v, %d): %+v", a, n, b)
			}
		}
		for _, n := range []int{1<<31 - 1, 1 << 31, top - 1, top, 1 << 32, 1<<32 + 1, 1<<40 - 2, 1<<40 - 1, 1 << 40} {
			holdTicks(t, a, n)
		}
		most := modelTicks(a, 1<<40)
		for _, n := range []int{1<<40 + 1, 1<<40 + 2, 1<<40 + 3, 1 << 41, 1<<62 + 5, math.MaxInt - 1, math.MaxInt} {
			if b := Ticks(a, n); b != most {
				t.Errorf("Ticks(%+v, %d): %+v, wanted %+v", a, n, b, most)
			}
		}
	}
}

// P9.2: the numbers themselves, so that the model is held, too: 2^40 is 2 modulo 7, 1 modulo 3, 256 modulo 2^32 - 1.
func TestTicksTold(t *testing.T) {
	for _, x := range []struct {
		a    api.Timer
		n    int
		left uint32
	}{
		{api.Timer{Every: 7}, 1 << 40, 6},
		{api.Timer{Every: 7, Left: 7}, 1 << 40, 5},
		{api.Timer{Every: 7, Left: 7}, 1<<40 - 1, 6},
		{api.Timer{Every: 7, Left: 7}, 1<<40 + 1, 5},
		{api.Timer{Every: 7, Left: 7}, math.MaxInt, 5},
		{api.Timer{Every: 3, Left: 1}, 1 << 40, 3},
		{api.Timer{Every: 1, Left: top}, 1 << 40, 1},
		{api.Timer{Every: top, Left: top}, 1 << 40, top - 256},
		{api.Timer{Every: top, Left: 1}, top, 1},
		{api.Timer{Every: top, Left: 1}, top - 1, 2},
		{api.Timer{Every: 5, Left: 100}, 100, 5},
		{api.Timer{Every: 5, Left: 100}, 104, 1},
		{api.Timer{Every: 5, Left: 100}, 105, 5},
	} {
		want := api.Timer{Every: x.a.Every, Left: x.left, Ring: true}
		if b := Ticks(x.a, x.n); b != want {
			t.Errorf("Ticks(%+v, %d): %+v, wanted %+v", x.a, x.n, b, want)
		}
		holdTicks(t, x.a, x.n)
	}
}

// P9.3: the bytes themselves, and each byte of a number alone.
func TestText(t *testing.T) {
	for want, a := range map[string]api.Timer{
		"\x00\x00\x00\x00\x00\x00\x00\x00\x00": {},
		"\x00\x00\x00\x00\x00\x00\x00\x00\x01": {Ring: true},
		"\x01\x02\x03\x04\x05\x06\x07\x08\x01": {Every: 0x01020304, Left: 0x05060708, Ring: true},
		"\xff\xff\xff\xff\x00\x00\x00\x00\x00": {Every: top},
		"\x00\x00\x00\x00\xff\xff\xff\xff\x00": {Left: top},
		"\xff\xff\xff\xff\xff\xff\xff\xff\x01": {Every: top, Left: top, Ring: true},
		"12345678\x00":                         {Every: 0x31323334, Left: 0x35363738},
	} {
		if s := Text(a); s != want {
			t.Errorf("Text(%+v): %q, wanted %q", a, s, want)
		}
		if b, e := Parse(want); b != a || e != api.OK {
			t.Errorf("Parse(%q): %+v, %d", want, b, e)
		}
	}
	for at := range 8 {
		for c := range 256 {
			b := make([]byte, 9)
			b[at] = byte(c)
			want := api.Timer{}
			if at < 4 {
				want.Every = uint32(c) << (8 * (3 - at))
			} else {
				want.Left = uint32(c) << (8 * (7 - at))
			}
			if a, e := Parse(string(b)); a != want || e != api.OK || Text(want) != string(b) {
				t.Fatalf("byte %d is %d: %+v, %d, %q", at, c, a, e, Text(want))
			}
		}
	}
}

// P9.3: there and back.
func TestThereAndBack(t *testing.T) {
	r := rand.New(rand.NewSource(93))
	ts := someTimers()
	for range 2000 {
		ts = append(ts, anyTimer(r))
	}
	for _, a := range ts {
		s := Text(a)
		if b, e := Parse(s); s != modelText(a) || b != a || e != api.OK {
			t.Fatalf("%+v: %q, %+v, %d", a, s, b, e)
		}
	}
}

// holdParse: s is a text just if it has nine bytes of which the last is 0 or 1.
func holdParse(t *testing.T, s string) {
	t.Helper()
	a, e := Parse(s)
	if len(s) == 9 && s[8] < 2 {
		if e != api.OK || Text(a) != s {
			t.Fatalf("Parse(%q): %+v, %d", s, a, e)
		}
		return
	}
	if a != (api.Timer{}) || e != api.ErrTimerForm {
		t.Fatalf("Parse(%q): %+v, %d", s, a, e)
	}
}

// P9.3: what is no timer's Text is refused, with nothing beside the error.
func TestParseWrong(t *testing.T) {
	for n := range 40 {
		for _, c := range []string{"\x00", "\x01", "\x02", "a", "\xff"} {
			holdParse(t, strings.Repeat(c, n))
		}
	}
	for last := range 256 {
		for _, head := range []string{"12345678", "\x00\x00\x00\x00\x00\x00\x00\x00", "\xff\xff\xff\xff\xff\xff\xff\xff"} {
			holdParse(t, head+string([]byte{byte(last)}))
		}
	}
	for _, a := range someTimers() {
		s := Text(a)
		for n := range len(s) {
			holdParse(t, s[:n])
			holdParse(t, s[n+1:])
		}
		holdParse(t, s+"\x00")
		holdParse(t, s+"\x01")
		holdParse(t, "\x00"+s)
		holdParse(t, s+s)
	}
	holdParse(t, strings.Repeat("\x00", 1<<16))
	r := rand.New(rand.NewSource(94))
	for range 4000 {
		b := make([]byte, r.Intn(20))
		r.Read(b)
		if len(b) > 0 && r.Intn(2) == 0 {
			b[len(b)-1] = byte(r.Intn(4))
		}
		holdParse(t, string(b))
	}
}

// P9.4: two goes of Ticks are one of both together.
func TestTicksTogether(t *testing.T) {
	r := rand.New(rand.NewSource(95))
	for range 20000 {
		a := anyTimer(r)
		n := r.Intn(1<<40+1) >> r.Intn(41)
		m := r.Intn(1<<40+1-n) >> r.Intn(41)
		if b, c := Ticks(Ticks(a, n), m), Ticks(a, n+m); b != c || b != modelTicks(a, n+m) {
			t.Fatalf("%+v: %d and %d: %+v, together %+v", a, n, m, b, c)
		}
	}
	for _, a := range someTimers() {
		for _, n := range []int{0, 1, int(a.Left), int(a.Every), 1 << 32, 1 << 39, 1<<40 - 1, 1 << 40} {
			if b, c := Ticks(Ticks(a, n), 1<<40-n), Ticks(a, 1<<40); b != c {
				t.Errorf("%+v: %d: %+v, together %+v", a, n, b, c)
			}
		}
	}
}

// P9.4: a timer that is set to v rings with the v-th step, not ahead of it, and each v steps behind that, if it is told to stop.
func TestRingsWithTheLast(t *testing.T) {
	for _, was := range []api.Timer{{}, {Every: 3, Left: 1}, {Every: 100, Left: 100}, {Every: top, Left: top}, {Left: 7}} {
		for _, v := range edgeWords() {
			a, _ := Write(was, 0, v)
			if v == 0 {
				if b := Ticks(a, 1<<40); b != (api.Timer{}) {
					t.Errorf("a timer that is set to 0: %+v", b)
				}
				continue
			}
			for range 3 {
				early, late := Ticks(a, int(v)-1), Ticks(a, int(v))
				if early != (api.Timer{Every: v, Left: 1}) || late != (api.Timer{Every: v, Left: v, Ring: true}) || Tick(early) != late {
					t.Fatalf("set to %d: %+v, then %+v", v, early, late)
				}
				a, _ = Write(late, 8, v)
			}
		}
	}
	for v := uint32(1); v < 40; v++ {
		a, _ := Write(api.Timer{}, 0, v)
		for range v - 1 {
			if a = Tick(a); a.Ring {
				t.Fatalf("set to %d, it rings early", v)
			}
		}
		if a = Tick(a); !a.Ring || a.Left != v {
			t.Errorf("set to %d: %+v", v, a)
		}
	}
}

// P9.1 to P9.4: any calls behind one another, each held against the model.
func TestAnyOrder(t *testing.T) {
	r := rand.New(rand.NewSource(96))
	words := edgeWords()
	for range 60 {
		a := anyTimer(r)
		for range 200 {
			want := a
			v := words[r.Intn(len(words))]
			switch r.Intn(6) {
			case 0:
				want.Every, want.Left = v, v
				a, _ = Write(a, 0, v)
			case 1:
				want.Left = v
				a, _ = Write(a, 4, v)
			case 2:
				want.Ring = false
				a, _ = Write(a, 8, v)
			case 3:
				want, a = modelTick(want), Tick(a)
			case 4:
				n := r.Intn(1<<41) >> r.Intn(41)
				want, a = modelTicks(want, n), Ticks(a, n)
			case 5:
				a, _ = Parse(Text(a))
			}
			if a != want {
				t.Fatalf("%+v, wanted %+v", a, want)
			}
		}
	}
}

// The chapter's examples.
func TestExamples(t *testing.T) {
	a, e := Write(api.Timer{}, 0, 3)
	for range 3 {
		a = Tick(a)
	}
	if a != (api.Timer{Every: 3, Left: 3, Ring: true}) || e != api.OK {
		t.Errorf("%+v, %d", a, e)
	}
	if a := Ticks(api.Timer{Every: 7, Left: 2}, 1000000); a != (api.Timer{Every: 7, Left: 1, Ring: true}) {
		t.Errorf("%+v", a)
	}
}
