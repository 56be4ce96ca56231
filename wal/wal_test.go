package wal

import (
	"math"
	"slices"
	"strings"
	"testing"

	"zoetrope/api"
	"zoetrope/disk"
)

// noughts are those of some sectors.
func noughts(sectors int) string { return strings.Repeat("\x00", 64*sectors) }

// firstHead is the head that Format writes, byte by byte.
var firstHead = "ZW" + "\x00\x00\x00\x01" + "\x00" + strings.Repeat("\x00", 32) + "\xff\xff" + strings.Repeat("\x00", 17) + "\x00\x00\x00\x01" + "\x19\xc9"

// The chapter's examples.
func TestExample(t *testing.T) {
	l, _ := formatted(t, 42)
	if l.Sectors() != 8 || l.Number() != 1 {
		t.Error(l.Sectors(), l.Number())
	}
	hold(t, l.Commit([]api.Cell{cell(0, "a"), cell(3, "b")}), api.OK)
	if l.Number() != 2 {
		t.Error(l.Number())
	}
	hold(t, l.Commit([]api.Cell{cell(3, "c"), cell(0, "d")}), api.ErrArg)
	if l.Number() != 2 {
		t.Error(l.Number())
	}
	holdOwn(t, l, "a\x00\x00b\x00")
}

// P19.1: disks that are too small or too big, whether their power is there or not; nothing is written to them.
func TestSizes(t *testing.T) {
	for n, want := range map[int]api.Errno{1: api.ErrWalForm, 2: api.ErrWalForm, 34: api.ErrWalForm, 41: api.ErrWalForm, 42: api.OK, 43: api.OK, 500: api.OK, 4034: api.OK, 4035: api.ErrWalForm, 4096: api.ErrWalForm} {
		d := blank(t, n)
		holdNone(t, d, api.ErrWalForm)
		l, err := Format(d)
		hold(t, err, want)
		if (l != nil) != (want == api.OK) {
			t.Errorf("%d sectors: %v", n, l)
		}
		if want != api.OK {
			if d.Steps() != 0 || d.Image() != noughts(n) {
				t.Errorf("%d sectors: Steps %d", n, d.Steps())
			}
		} else if l.Sectors() != n-34 || l.Number() != 1 || l.Dead() {
			t.Errorf("%d sectors: Sectors %d, Number %d", n, l.Sectors(), l.Number())
		}
		hold(t, d.Crash(api.Crash{}), api.OK)
		if want == api.OK {
			want = api.ErrDead
		}
		holdNone(t, d, want)
		l, err = Format(d)
		if l != nil || err != want {
			t.Errorf("%d sectors, dead: %v, %d", n, l, err)
		}
	}
}

// P19.1: a disk that has a head, but not the size, is none.
func TestSizeWithHead(t *testing.T) {
	for n, want := range map[int]api.Errno{41: api.ErrWalForm, 42: api.OK, 4034: api.OK, 4035: api.ErrWalForm} {
		_, err := Open(imaged(t, noughts(1)+firstHead+noughts(n-2)))
		hold(t, err, want)
	}
}

// P19.1: what Format writes: the first two sectors, no other one.
func TestFormatBytes(t *testing.T) {
	d := imaged(t, strings.Repeat("x", 50*64))
	l, err := Format(d)
	hold(t, err, api.OK)
	if want := noughts(1) + firstHead + strings.Repeat("x", 48*64); d.Image() != want || d.Steps() != 3 {
		t.Errorf("Steps %d, image %q", d.Steps(), d.Image())
	}
	holdOwn(t, l, strings.Repeat("x", 16))
	holdOwn(t, opened(t, d), strings.Repeat("x", 16))
}

// P19.1: formatted anew a log begins again; its own sectors stay.
func TestFormatAgain(t *testing.T) {
	l, d := formatted(t, 45)
	for i := range 5 {
		hold(t, l.Commit([]api.Cell{cell(i, "a"), cell(i+1, "b")}), api.OK)
	}
	l, err := Format(d)
	hold(t, err, api.OK)
	if l.Number() != 1 {
		t.Errorf("Number %d", l.Number())
	}
	holdOwn(t, l, "aaaaab\x00")
	hold(t, d.Crash(api.Crash{}), api.OK)
	d.Revive()
	l = opened(t, d)
	if l.Number() != 1 {
		t.Errorf("Number %d", l.Number())
	}
	hold(t, l.Commit([]api.Cell{cell(0, "c")}), api.OK)
	holdOwn(t, opened(t, d), "caaaab\x00")
}

// headed is a disk with two sectors as heads, the rooms full of r and s, and o in its own sectors.
func headed(t *testing.T, first, second string, own int) *disk.Disk {
	t.Helper()
	return imaged(t, first+second+strings.Repeat(fill("r"), 16)+strings.Repeat(fill("s"), 16)+strings.Repeat(fill("o"), own))
}

// sumOfFill is the sum of some sectors that are full of a byte.
func sumOfFill(s string, sectors int) uint16 { return plainSum(strings.Repeat(fill(s), sectors)) }

var sixteen = []int{0, 1, 2, 3, 4, 5, 6, 7, 8, 9, 10, 11, 12, 13, 14, 19}

// P19.1: no head is right: bytes that are none, or those of a head at another place, or of cells that may not be.
func TestNoHead(t *testing.T) {
	good := laid(2, []int{3, 7}, sumOfFill("r", 2))
	long := laid(2, sixteen, sumOfFill("r", 16))
	resealed := func(s string, at int, piece string) string { return sealed(with(s, at, piece)[:62]) }
	for i, s := range []string{
		noughts(1), fill("x"), fill("\xff"), sealed(noughts(1)[:62]),
		resealed(good, 0, "z"), resealed(good, 1, "w"), resealed(good, 0, "WZ"), // the mark
		with(good, 62, "\x00"), with(good, 63, "\x00"), good[:62] + "\x00\x00", // the seal
		laid(0, nil, 0xffff), laid(1, nil, 0xffff), laid(1<<32-1, nil, 0xffff), laid(3, []int{3, 7}, sumOfFill("s", 2)), // its place
		resealed(good, 5, "\x04"), resealed(good, 61, "\x04"), resealed(good, 2, "\x01"), resealed(good, 58, "\x01"), resealed(good, 58, "\x00\x00\x00\x00"), // two numbers
		resealed(good, 6, "\x01"), resealed(good, 6, "\x00"), resealed(good, 6, "\x03"), resealed(long, 6, "\x11"), resealed(long, 6, "\xff"), resealed(long, 6, "\x0f"), // how many
		resealed(good, 11, "\x00\x01"), resealed(good, 11, "\x01"), resealed(good, 38, "\x01"), resealed(good, 37, "\x01"), // behind the last cell
		resealed(good, 41, "\x01"), resealed(good, 50, "\x01"), resealed(good, 57, "\x01"), // behind the sum
		laid(2, []int{7, 3}, sumOfFill("r", 2)), laid(2, []int{3, 3}, sumOfFill("r", 2)), laid(2, []int{0, 0}, sumOfFill("r", 2)), laid(2, []int{1, 5, 4}, sumOfFill("r", 3)),
		laid(2, []int{20}, sumOfFill("r", 1)), laid(2, []int{3, 20}, sumOfFill("r", 2)), laid(2, []int{65535}, sumOfFill("r", 1)), laid(2, []int{256}, sumOfFill("r", 1)), laid(2, []int{1, 65535, 2}, sumOfFill("r", 3)),
		good[1:] + "Z", good[63:] + good[:63],
	} {
		d := headed(t, s, noughts(1), 20)
		if isRight(s, 0, 20) {
			t.Errorf("%d: a right head %q", i, s)
		}
		holdNone(t, d, api.ErrWalForm)
		// A lesser one that is right is taken in its stead.
		d = headed(t, s, firstHead, 20)
		l := opened(t, d)
		if l.Number() != 1 || d.Image() != s+firstHead+strings.Repeat(fill("r"), 16)+strings.Repeat(fill("s"), 16)+strings.Repeat(fill("o"), 20) {
			t.Errorf("%d: Number %d", i, l.Number())
		}
	}
}

// P19.1: right heads: the least and the greatest numbers, no cells and sixteen, the first and the last sector.
func TestHead(t *testing.T) {
	for i, x := range []struct {
		place, number int
		cells         []int
		own           string
	}{
		{1, 1, nil, "oooooooooooooooooooo"},
		{1, 1, []int{0}, "sooooooooooooooooooo"},
		{0, 2, []int{19}, "ooooooooooooooooooor"},
		{0, 2, []int{0, 19}, "roooooooooooooooooor"},
		{1, 3, []int{5, 6, 7}, "ooooosssoooooooooooo"},
		{0, 1<<32 - 2, []int{5, 6, 8}, "ooooorrorooooooooooo"},
		{1, 1<<32 - 1, nil, "oooooooooooooooooooo"},
		{1, 1<<32 - 1, sixteen, "sssssssssssssssoooos"},
		{0, 1 << 31, sixteen, "rrrrrrrrrrrrrrroooor"},
		{1, 256 + 1, []int{1}, "osoooooooooooooooooo"},
		{0, 65536, []int{1}, "oroooooooooooooooooo"},
		{0, 1 << 24, []int{1}, "oroooooooooooooooooo"},
	} {
		heads := []string{noughts(1), noughts(1)}
		heads[x.place] = laid(x.number, x.cells, sumOfFill("rs"[x.place:x.place+1], len(x.cells)))
		d := headed(t, heads[0], heads[1], 20)
		l := opened(t, d)
		if l.Number() != x.number || l.Sectors() != 20 || l.Dead() || d.Steps() != len(x.cells)+1 {
			t.Errorf("%d: Number %d, Steps %d", i, l.Number(), d.Steps())
		}
		want := heads[0] + heads[1] + strings.Repeat(fill("r"), 16) + strings.Repeat(fill("s"), 16)
		for n := range x.own {
			want += fill(x.own[n : n+1])
		}
		if d.Image() != want {
			t.Errorf("%d: image %q", i, d.Image())
		}
	}
}

// P19.1: of two right heads the greater number's is taken, also where it is the first one's, or far above.
func TestTwoHeads(t *testing.T) {
	for _, x := range [][3]int{{2, 1, 2}, {2, 3, 3}, {4, 3, 4}, {256, 255, 256}, {256, 257, 257}, {1 << 31, 1<<31 - 1, 1 << 31}, {2, 1<<32 - 1, 1<<32 - 1}, {1<<32 - 2, 1<<32 - 1, 1<<32 - 1}, {1<<32 - 2, 1, 1<<32 - 2}} {
		d := headed(t, laid(x[0], []int{0}, sumOfFill("r", 1)), laid(x[1], []int{1}, sumOfFill("s", 1)), 8)
		l := opened(t, d)
		if l.Number() != x[2] {
			t.Errorf("%v: Number %d", x, l.Number())
		}
		holdOwn(t, l, []string{"rooooooo", "osoooooo"}[x[2]%2])
	}
}

// P19.1: a head of which one byte is another one, whichever, is none; with the other head right that is taken.
func TestHeadByte(t *testing.T) {
	good := laid(2, []int{3, 7}, sumOfFill("r", 2))
	for at := range good {
		for by := 1; by < 256; by++ {
			s := with(good, at, string([]byte{good[at] ^ byte(by)}))
			holdNone(t, headed(t, s, noughts(1), 8), api.ErrWalForm)
			if l := opened(t, headed(t, s, firstHead, 8)); l.Number() != 1 {
				t.Errorf("byte %d as %d: Number %d", at, s[at], l.Number())
			}
		}
	}
}

// P19.1: likewise if it is sealed anew: it is told by the model whether it is right, and what is found then.
func TestHeadByteSealed(t *testing.T) {
	good := laid(2, []int{3, 7}, sumOfFill("r", 2))
	for at := range 62 {
		for by := range 256 {
			s := sealed(with(good, at, string([]byte{byte(by)}))[:62])
			d := headed(t, s, firstHead, 20)
			want := d.Clone()
			l, err := Open(d)
			o, wantErr := modelOpen(want)
			hold(t, err, wantErr)
			holdDisk(t, d, want)
			if (l != nil) != (o != nil) || l != nil && l.Number() != o.number {
				t.Fatalf("byte %d as %d: %v, wanted %v", at, by, l, o)
			}
		}
	}
}

// P19.1: a room of which one byte is another one: its cells' bytes count, those behind them and the other room's do not.
func TestRoomByte(t *testing.T) {
	for _, number := range []int{2, 3} {
		heads := []string{noughts(1), noughts(1)}
		heads[number%2] = laid(number, []int{3, 7}, sumOfFill("rs"[number%2:number%2+1], 2))
		image := headed(t, heads[0], heads[1], 8).Image()
		room := 2 + 16*(number%2)
		for at := 2 * 64; at < len(image); at++ {
			d := imaged(t, with(image, at, string([]byte{image[at] ^ 0x10})))
			if at >= 64*room && at < 64*(room+2) {
				holdNone(t, d, api.ErrCorrupt)
			} else {
				opened(t, d)
			}
		}
	}
}

// P19.1: the head with the greater number has another room than its sum tells: the lesser head does not stand in for it.
func TestCorrupt(t *testing.T) {
	for _, sum := range []uint16{0, 0xffff, sumOfFill("r", 1), sumOfFill("r", 3), sumOfFill("s", 2), sumOfFill("r", 2) ^ 1, sumOfFill("r", 2) ^ 0x8000} {
		holdNone(t, headed(t, laid(2, []int{3, 7}, sum), firstHead, 8), api.ErrCorrupt)
	}
	for _, sum := range []uint16{0, 1, 0xfffe, 0x7fff} {
		holdNone(t, headed(t, noughts(1), laid(1, nil, sum), 8), api.ErrCorrupt)
	}
	opened(t, headed(t, laid(2, []int{3, 7}, sumOfFill("r", 2)), laid(1, nil, 7), 8)) // nobody asks for the lesser one's
	swapped := laid(2, []int{3, 7}, plainSum(fill("b")+fill("a")))
	d := headed(t, swapped, firstHead, 8)
	hold(t, d.Write(2, fill("a")), api.OK)
	hold(t, d.Write(3, fill("b")), api.OK)
	hold(t, d.Flush(), api.OK)
	holdNone(t, d, api.ErrCorrupt)
	hold(t, d.Write(2, fill("b")), api.OK)
	hold(t, d.Write(3, fill("a")), api.OK)
	holdOwn(t, opened(t, d), "oooboooa")
}

// P19.2: each of its sectors, and none else.
func TestRead(t *testing.T) {
	for _, sectors := range []int{42, 43, 90} {
		d := blank(t, sectors)
		for n := range sectors - 34 {
			hold(t, d.Write(34+n, fill(string([]byte{byte(n + 1)}))), api.OK)
		}
		l, err := Format(d)
		hold(t, err, api.OK)
		for n := range l.Sectors() {
			s, err := l.Read(n)
			hold(t, err, api.OK)
			if s != fill(string([]byte{byte(n + 1)})) {
				t.Errorf("%d of %d: %q", n, sectors, s)
			}
		}
		for _, n := range []int{math.MinInt, -35, -34, -1, sectors - 34, sectors - 33, sectors, 4096, math.MaxInt - 33, math.MaxInt} {
			if s, err := l.Read(n); s != "" || err != api.ErrArg {
				t.Errorf("%d of %d: %q, %d", n, sectors, s, err)
			}
		}
		if l.Dead() || d.Steps() != sectors-34+3 {
			t.Errorf("Dead %v, Steps %d", l.Dead(), d.Steps())
		}
	}
}

// P19.2: what is no sector is told ahead of what is dead, and makes no log dead; a Read that finds the power gone does.
func TestReadDead(t *testing.T) {
	l, d := formatted(t, 42)
	hold(t, l.Commit([]api.Cell{cell(0, "a")}), api.OK)
	hold(t, d.Crash(api.Crash{}), api.OK)
	for _, n := range []int{-1, 8} {
		s, err := l.Read(n)
		if s != "" || err != api.ErrArg || l.Dead() {
			t.Errorf("%q, %d, Dead %v", s, err, l.Dead())
		}
	}
	if l.Sectors() != 8 || l.Number() != 2 {
		t.Error(l.Sectors(), l.Number())
	}
	d.Revive() // the log has not heard of it
	holdOwn(t, l, "a\x00")
	hold(t, d.Crash(api.Crash{}), api.OK)
	for range 2 {
		s, err := l.Read(0)
		if s != "" || err != api.ErrDead || !l.Dead() {
			t.Errorf("%q, %d, Dead %v", s, err, l.Dead())
		}
		holdDead(t, l, 2)
		d.Revive()
	}
}

// holdDead holds what is asked of a dead log.
func holdDead(t *testing.T, l *Log, number int) {
	t.Helper()
	if !l.Dead() || l.Number() != number || l.Sectors() != 8 {
		t.Fatalf("Dead %v, Number %d, Sectors %d", l.Dead(), l.Number(), l.Sectors())
	}
	for n := -1; n <= 8; n++ {
		want := api.ErrDead
		if n < 0 || n > 7 {
			want = api.ErrArg
		}
		if s, err := l.Read(n); s != "" || err != want {
			t.Fatalf("Read(%d): %q, %d", n, s, err)
		}
	}
	hold(t, l.Commit(nil), api.ErrDead)
	hold(t, l.Commit([]api.Cell{cell(0, "x")}), api.ErrDead)
	hold(t, l.Commit([]api.Cell{cell(8, "x")}), api.ErrArg)
	hold(t, l.Commit(make([]api.Cell, 17)), api.ErrWalFull)
	if !l.Dead() || l.Number() != number {
		t.Fatalf("Dead %v, Number %d", l.Dead(), l.Number())
	}
}

// P19.3: a change's steps: its room, its head, its sectors, each sure ahead of the next one; the other room and head stay.
func TestCommit(t *testing.T) {
	cells := [][]api.Cell{{}, {cell(0, "a")}, {cell(7, "b")}, {cell(0, "c"), cell(7, "d")}, {cell(2, "e"), cell(3, "f"), cell(4, "g")}, nil, {cell(1, "\x00"), cell(5, "\xff")}}
	l, d := formatted(t, 42)
	want := d.Clone()
	number := 1
	for range 3 {
		for _, c := range cells {
			number++
			hold(t, l.Commit(c), api.OK)
			hold(t, done(want, commitSteps(number, c)), api.OK)
			holdDisk(t, d, want)
			if l.Number() != number || l.Dead() {
				t.Fatalf("Number %d, wanted %d", l.Number(), number)
			}
			if k := opened(t, d.Clone()); k.Number() != number {
				t.Fatalf("Number %d behind Open, wanted %d", k.Number(), number)
			}
		}
	}
}

// P19.3: the bytes of a change, each told.
func TestCommitBytes(t *testing.T) {
	l, d := formatted(t, 42)
	hold(t, l.Commit([]api.Cell{cell(0, "a"), cell(3, "b")}), api.OK)
	first := sealed("ZW\x00\x00\x00\x02\x02" + "\x00\x00\x00\x03" + strings.Repeat("\x00", 28) + twoBytes(plainSum(fill("a")+fill("b"))) + strings.Repeat("\x00", 17) + "\x00\x00\x00\x02")
	want := first + firstHead + fill("a") + fill("b") + noughts(30) + fill("a") + noughts(2) + fill("b") + noughts(4)
	if d.Image() != want || d.Steps() != 3+2+1+1+1+2+1 {
		t.Errorf("Steps %d, image %q", d.Steps(), d.Image())
	}
	hold(t, l.Commit([]api.Cell{cell(7, "c")}), api.OK)
	second := sealed("ZW\x00\x00\x00\x03\x01" + "\x00\x07" + strings.Repeat("\x00", 30) + twoBytes(plainSum(fill("c"))) + strings.Repeat("\x00", 17) + "\x00\x00\x00\x03")
	want = first + second + fill("a") + fill("b") + noughts(14) + fill("c") + noughts(15) + fill("a") + noughts(2) + fill("b") + noughts(3) + fill("c")
	if d.Image() != want || d.Steps() != 11+1+1+1+1+1+1 {
		t.Errorf("Steps %d, image %q", d.Steps(), d.Image())
	}
}

func twoBytes(n uint16) string { return string([]byte{byte(n >> 8), byte(n)}) }

// P19.3: sixteen cells, on logs of several sizes; the greatest number that a cell can have.
func TestCommitSixteen(t *testing.T) {
	for _, sectors := range []int{50, 51, 500, 4034} {
		l, d := formatted(t, sectors)
		want := d.Clone()
		var low, high []api.Cell
		for i := range 16 {
			low = append(low, cell(i, string([]byte{byte('a' + i)})))
			high = append(high, cell(sectors-34-16+i, string([]byte{byte('A' + i)})))
		}
		hold(t, l.Commit(low), api.OK)
		hold(t, done(want, commitSteps(2, low)), api.OK)
		hold(t, l.Commit(high), api.OK)
		hold(t, done(want, commitSteps(3, high)), api.OK)
		holdDisk(t, d, want)
		for _, log := range []*Log{l, opened(t, d)} {
			for _, c := range high {
				s, err := log.Read(c.N)
				hold(t, err, api.OK)
				if s != c.S || log.Number() != 3 {
					t.Errorf("%d of %d: %q, Number %d", c.N, sectors, s, log.Number())
				}
			}
		}
	}
}

// P19.3: what is refused, and of two reasons the one that is named first; nothing is another thing then.
func TestCommitRefused(t *testing.T) {
	many := func(n int) []api.Cell {
		l := make([]api.Cell, n)
		for i := range l {
			l[i] = cell(i, "m")
		}
		return l
	}
	l, d := formatted(t, 50)
	hold(t, l.Commit([]api.Cell{cell(0, "a"), cell(15, "b")}), api.OK)
	image, steps := d.Image(), d.Steps()
	for i, x := range []struct {
		cells []api.Cell
		want  api.Errno
	}{
		{many(17), api.ErrWalFull},
		{many(100), api.ErrWalFull},
		{make([]api.Cell, 17), api.ErrWalFull},
		{[]api.Cell{cell(-1, "x")}, api.ErrArg},
		{[]api.Cell{cell(-34, "x")}, api.ErrArg},
		{[]api.Cell{cell(math.MinInt, "x")}, api.ErrArg},
		{[]api.Cell{cell(16, "x")}, api.ErrArg},
		{[]api.Cell{cell(17, "x")}, api.ErrArg},
		{[]api.Cell{cell(65536, "x")}, api.ErrArg},
		{[]api.Cell{cell(math.MaxInt, "x")}, api.ErrArg},
		{[]api.Cell{cell(3, "x"), cell(0, "y")}, api.ErrArg},
		{[]api.Cell{cell(3, "x"), cell(3, "x")}, api.ErrArg},
		{[]api.Cell{cell(0, "x"), cell(0, "x")}, api.ErrArg},
		{[]api.Cell{cell(0, "x"), cell(5, "x"), cell(4, "x")}, api.ErrArg},
		{[]api.Cell{cell(0, "x"), cell(16, "x")}, api.ErrArg},
		{[]api.Cell{cell(-1, "x"), cell(0, "x")}, api.ErrArg},
		{append(many(15), cell(14, "x")), api.ErrArg},
		{append(many(15), cell(16, "x")), api.ErrArg},
		{[]api.Cell{{N: 0, S: ""}}, api.ErrArg},
		{[]api.Cell{{N: 0, S: fill("x")[1:]}}, api.ErrArg},
		{[]api.Cell{{N: 0, S: fill("x") + "x"}}, api.ErrArg},
		{[]api.Cell{{N: 0, S: fill("xx")}}, api.ErrArg},
		{[]api.Cell{cell(0, "x"), {N: 5, S: fill("x")[1:]}}, api.ErrArg},
		{[]api.Cell{cell(0, "x"), {N: 5, S: fill("x") + "x"}, cell(6, "x")}, api.ErrArg},
		{[]api.Cell{{}}, api.ErrArg},
	} {
		if err := l.Commit(x.cells); err != x.want {
			t.Errorf("%d: %d, wanted %d", i, err, x.want)
		}
		if d.Image() != image || d.Steps() != steps || l.Number() != 2 || l.Dead() {
			t.Fatalf("%d: Steps %d, Number %d, Dead %v", i, d.Steps(), l.Number(), l.Dead())
		}
	}
	hold(t, l.Commit(many(16)), api.OK)
}

// P19.3: the last number that there is; behind it no change has room, whatever else is wrong with it, or with the log.
func TestLastNumber(t *testing.T) {
	d := headed(t, laid(1<<32-2, []int{3, 7}, sumOfFill("r", 2)), noughts(1), 8)
	l := opened(t, d)
	hold(t, l.Commit([]api.Cell{cell(1, "z")}), api.OK)
	for _, log := range []*Log{l, opened(t, d)} {
		if log.Number() != 1<<32-1 {
			t.Fatalf("Number %d", log.Number())
		}
		holdOwn(t, log, "ozorooor")
		image, steps := d.Image(), d.Steps()
		for _, cells := range [][]api.Cell{nil, {cell(0, "x")}, {cell(8, "x")}, {{}}, make([]api.Cell, 17)} {
			hold(t, log.Commit(cells), api.ErrWalFull)
		}
		if d.Image() != image || d.Steps() != steps || log.Number() != 1<<32-1 {
			t.Fatalf("Steps %d, Number %d", d.Steps(), log.Number())
		}
		holdOwn(t, log, "ozorooor")
	}
	hold(t, d.Crash(api.Crash{}), api.OK)
	hold(t, l.Commit(nil), api.ErrWalFull)
	if l.Dead() {
		t.Error("dead by a change that was refused")
	}
	_, err := l.Read(0)
	hold(t, err, api.ErrDead)
	hold(t, l.Commit(nil), api.ErrWalFull)
}

// P19.3: a log is dead behind a change in which the power went, for good, whichever step that was.
func TestDead(t *testing.T) {
	for step := 1; step <= 9; step++ {
		l, d := formatted(t, 42)
		hold(t, l.Commit([]api.Cell{cell(0, "a"), cell(1, "a")}), api.OK)
		hold(t, d.Arm(step, api.Crash{Keep: "\xff", Torn: -1}), api.OK)
		want := api.ErrDead
		if step == 9 { // one more than it has
			want = api.OK
		}
		hold(t, l.Commit([]api.Cell{cell(0, "b"), cell(1, "b")}), want)
		if want == api.OK {
			if l.Dead() || l.Number() != 3 {
				t.Fatalf("Dead %v, Number %d", l.Dead(), l.Number())
			}
			hold(t, l.Commit(nil), api.ErrDead)
			holdDead(t, l, 3)
			continue
		}
		steps := d.Steps()
		holdDead(t, l, 2)
		d.Revive()
		image := d.Image()
		holdDead(t, l, 2)
		if d.Steps() != steps || d.Image() != image {
			t.Fatalf("Steps %d, wanted %d", d.Steps(), steps)
		}
		if k := opened(t, d); k.Dead() {
			t.Fatal("another log is dead, too")
		}
		holdDead(t, l, 2)
	}
}

// P19.3: a change that is refused does not hear that the power is gone; one that is not refused does.
func TestDeadDisk(t *testing.T) {
	l, d := formatted(t, 42)
	hold(t, d.Crash(api.Crash{}), api.OK)
	hold(t, l.Commit([]api.Cell{cell(8, "x")}), api.ErrArg)
	hold(t, l.Commit(make([]api.Cell, 17)), api.ErrWalFull)
	if l.Dead() {
		t.Fatal("dead by a change that was refused")
	}
	hold(t, l.Commit(nil), api.ErrDead)
	holdDead(t, l, 1)
	d.Revive()
	holdDead(t, l, 1)
}

// P19.4: a clone and its original go their own ways.
func TestClone(t *testing.T) {
	l, d := formatted(t, 42)
	hold(t, l.Commit([]api.Cell{cell(0, "a"), cell(1, "b")}), api.OK)
	e := d.Clone()
	k := l.Clone(e)
	if k.Number() != 2 || k.Sectors() != 8 || k.Dead() {
		t.Fatalf("Number %d, Sectors %d, Dead %v", k.Number(), k.Sectors(), k.Dead())
	}
	holdOwn(t, k, "ab\x00")
	hold(t, l.Commit([]api.Cell{cell(0, "c")}), api.OK)
	holdOwn(t, k, "ab\x00")
	for range 3 {
		hold(t, k.Commit([]api.Cell{cell(1, "d"), cell(2, "e")}), api.OK)
	}
	holdOwn(t, l, "cb\x00")
	holdOwn(t, k, "ade")
	if l.Number() != 3 || k.Number() != 5 {
		t.Errorf("Numbers %d, %d", l.Number(), k.Number())
	}
	holdOwn(t, opened(t, d), "cb\x00")
	holdOwn(t, opened(t, e), "ade")
	hold(t, d.Crash(api.Crash{}), api.OK)
	hold(t, l.Commit(nil), api.ErrDead)
	if k.Dead() {
		t.Error("the clone is dead, too")
	}
	hold(t, k.Commit(nil), api.OK)
	holdDead(t, l.Clone(d.Clone()), 3)
	d.Revive()
	dead := d.Clone()
	holdDead(t, l.Clone(dead), 3)
	holdOwn(t, opened(t, dead), "cb\x00")
}

// P19.4: over the clone of a disk that is armed the power goes in the same step, once for each.
func TestCloneArmed(t *testing.T) {
	l, d := formatted(t, 42)
	hold(t, d.Arm(2, api.Crash{Keep: "\x01", Torn: -1}), api.OK)
	k := l.Clone(d.Clone())
	hold(t, l.Commit([]api.Cell{cell(0, "a")}), api.ErrDead)
	if k.Dead() {
		t.Fatal("the clone is dead, too")
	}
	holdOwn(t, k, "\x00")
	hold(t, k.Commit(nil), api.ErrDead)
	holdDead(t, k, 1)
}

// R4: cells that are handed in, and the room behind them, stay as they were, and are not kept.
func TestCellsStay(t *testing.T) {
	l, d := formatted(t, 42)
	room := []api.Cell{cell(1, "a"), cell(2, "b"), cell(3, "c"), cell(4, "d")}
	was := slices.Clone(room)
	for _, n := range []int{0, 1, 2, 4} {
		hold(t, l.Commit(room[:n]), api.OK)
		if !slices.Equal(room, was) {
			t.Fatalf("%v", room)
		}
	}
	bad := []api.Cell{cell(2, "x"), cell(1, "y"), cell(5, "z")}
	was = slices.Clone(bad)
	hold(t, l.Commit(bad[:2]), api.ErrArg)
	if !slices.Equal(bad, was) {
		t.Fatalf("%v", bad)
	}
	for i := range room {
		room[i] = cell(0, "!")
	}
	holdOwn(t, l, "\x00abcd\x00")
	holdOwn(t, opened(t, d), "\x00abcd\x00")
}

// R1: over a disk that is no clone of its own one's nothing is said but that calls end.
func TestCloneOverOther(t *testing.T) {
	l, _ := formatted(t, 42)
	for _, sectors := range []int{1, 2, 17, 34, 41, 43, 4096} {
		k := l.Clone(blank(t, sectors))
		for _, n := range []int{-1, 0, 7, 8, 4095} {
			k.Read(n)
			k.Commit([]api.Cell{cell(n, "x")})
			k.Commit(nil)
		}
		k.Sectors()
		k.Number()
		k.Dead()
	}
}
