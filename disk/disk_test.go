package disk

import (
	"math"
	"strings"
	"testing"

	"zoetrope/api"
)

func fill(c string) string { return strings.Repeat(c, 64) }

func noughts(sectors int) string { return strings.Repeat("\x00", 64*sectors) }

func made(t *testing.T, sectors int) *Disk {
	t.Helper()
	d, err := New(sectors)
	if d == nil || err != api.OK {
		t.Fatalf("New(%d): %v, %d", sectors, d, err)
	}
	return d
}

func opened(t *testing.T, image string) *Disk {
	t.Helper()
	d, err := Open(image)
	if d == nil || err != api.OK {
		t.Fatalf("Open of %d bytes: %v, %d", len(image), d, err)
	}
	return d
}

// hold holds an answer of a call.
func hold(t *testing.T, got, want api.Errno) {
	t.Helper()
	if got != want {
		t.Fatalf("error %d, wanted %d", got, want)
	}
}

func holdRead(t *testing.T, d *Disk, n int, want string) {
	t.Helper()
	if s, err := d.Read(n); s != want || err != api.OK {
		t.Fatalf("Read(%d): %q, %d, wanted %q", n, s, err, want)
	}
}

func holdImage(t *testing.T, d *Disk, want string) {
	t.Helper()
	if d.Image() != want {
		t.Fatalf("Image: %q, wanted %q", d.Image(), want)
	}
}

func holdState(t *testing.T, d *Disk, isDead bool, steps int) {
	t.Helper()
	if d.Dead() != isDead || d.Steps() != steps {
		t.Fatalf("Dead %v, Steps %d, wanted %v, %d", d.Dead(), d.Steps(), isDead, steps)
	}
}

// written is a disk of noughts in which texts of one byte each are loose, as told.
func written(t *testing.T, sectors int, cells ...api.Cell) *Disk {
	t.Helper()
	d := made(t, sectors)
	for _, c := range cells {
		hold(t, d.Write(c.N, fill(c.S)), api.OK)
	}
	return d
}

// numbered is an image whose sectors are all others.
func numbered(sectors int) string {
	b := make([]byte, 64*sectors)
	for n := range b {
		b[n] = byte(n/64 + n%64*7 + n/16384)
	}
	return string(b)
}

// P18.1
func TestNew(t *testing.T) {
	for _, sectors := range []int{1, 2, 3, 100, 4095, 4096} {
		d := made(t, sectors)
		newModel(noughts(sectors)).hold(t, d)
	}
}

// P18.1
func TestNewWrong(t *testing.T) {
	for _, sectors := range []int{math.MinInt, -4096, -1, 0, 4097, 1 << 32, 1<<58 + 1, math.MaxInt} {
		if d, err := New(sectors); d != nil || err != api.ErrDiskSize {
			t.Errorf("New(%d): %v, %d", sectors, d, err)
		}
	}
}

// P18.1: all bytes are there, and sure: no crash takes any.
func TestOpen(t *testing.T) {
	for _, sectors := range []int{1, 2, 3, 257, 4095, 4096} {
		image := numbered(sectors)
		d := opened(t, image)
		newModel(image).hold(t, d)
		hold(t, d.Crash(api.Crash{}), api.OK)
		holdImage(t, d, image)
	}
}

// P18.1
func TestOpenWrong(t *testing.T) {
	for _, size := range []int{0, 1, 63, 65, 127, 129, 262143, 262145, 262208, 1 << 20, 1<<20 + 1} {
		if d, err := Open(strings.Repeat("x", size)); d != nil || err != api.ErrDiskSize {
			t.Errorf("Open of %d bytes: %v, %d", size, d, err)
		}
	}
}

// P18.1: what Image tells is a disk's as it is sure, there and back.
func TestImage(t *testing.T) {
	d := opened(t, numbered(5))
	hold(t, d.Write(4, fill("x")), api.OK)
	hold(t, d.Flush(), api.OK)
	hold(t, d.Write(0, fill("y")), api.OK)
	newModel(numbered(5)[:256]+fill("x")).hold(t, opened(t, d.Image()))
}

// P18.2: what was written last is read, loose or sure; it is in the image only when it is sure.
func TestReadWrite(t *testing.T) {
	d := made(t, 3)
	hold(t, d.Write(0, fill("a")), api.OK)
	holdRead(t, d, 0, fill("a"))
	holdRead(t, d, 1, noughts(1))
	holdImage(t, d, noughts(3))
	hold(t, d.Write(2, fill("b")), api.OK)
	hold(t, d.Write(0, fill("c")), api.OK)
	holdRead(t, d, 0, fill("c"))
	holdRead(t, d, 2, fill("b"))
	holdImage(t, d, noughts(3))
	hold(t, d.Flush(), api.OK)
	holdRead(t, d, 0, fill("c"))
	holdRead(t, d, 2, fill("b"))
	holdImage(t, d, fill("c")+noughts(1)+fill("b"))
	hold(t, d.Write(0, fill("a")), api.OK)
	holdRead(t, d, 0, fill("a"))
	holdImage(t, d, fill("c")+noughts(1)+fill("b"))
}

// P18.2: a sector that is written several times, with and without a Flush among them, on disks of one and of two sectors.
func TestWriteOften(t *testing.T) {
	for _, sectors := range []int{1, 2} {
		d, last := made(t, sectors), sectors-1
		sure := noughts(1)
		for i := range 40 {
			s := strings.Repeat(string(rune('A'+i)), 63) + "."
			hold(t, d.Write(last, s), api.OK)
			holdRead(t, d, last, s)
			if i%3 == 2 {
				hold(t, d.Flush(), api.OK)
				sure = s
			}
			holdImage(t, d, noughts(last)+sure)
		}
	}
}

// P18.2: Flush makes sure in order: the last write of a sector is the one that stays.
func TestFlushOrder(t *testing.T) {
	d := written(t, 2, api.Cell{N: 0, S: "a"}, api.Cell{N: 1, S: "b"}, api.Cell{N: 0, S: "c"}, api.Cell{N: 1, S: "a"}, api.Cell{N: 0, S: "b"})
	hold(t, d.Flush(), api.OK)
	holdImage(t, d, fill("b")+fill("a"))
	hold(t, d.Flush(), api.OK)
	holdImage(t, d, fill("b")+fill("a"))
}

// P18.2: bytes of all kinds, each at its own place.
func TestWriteBytes(t *testing.T) {
	for at := range 4 {
		s := numbered(4)[64*at:][:64]
		d := opened(t, strings.Repeat("z", 256))
		hold(t, d.Write(at, s), api.OK)
		holdRead(t, d, at, s)
		hold(t, d.Flush(), api.OK)
		want := strings.Repeat("z", 64*at) + s + strings.Repeat("z", 64*(3-at))
		holdImage(t, d, want)
	}
}

// P18.2: the errors in their order; what is refused leaves nothing behind and is no step.
func TestWrong(t *testing.T) {
	d := opened(t, numbered(2))
	o := newModel(numbered(2))
	for _, n := range []int{math.MinInt, -64, -1, 2, 3, 64, 128, 1 << 58, math.MaxInt} {
		for _, s := range []string{"", "x", fill("x")} {
			hold(t, d.Write(n, s), api.ErrDiskAt)
		}
		if s, err := d.Read(n); s != "" || err != api.ErrDiskAt {
			t.Errorf("Read(%d): %q, %d", n, s, err)
		}
	}
	for _, size := range []int{0, 1, 63, 65, 128, 4096} {
		hold(t, d.Write(1, strings.Repeat("x", size)), api.ErrArg)
	}
	o.hold(t, d)
	hold(t, d.Write(1, fill("x")), api.OK)
	hold(t, o.write(1, fill("x")), api.OK)
	o.hold(t, d)
}

// P18.2, P18.3: while the power is gone that comes ahead of all else, and nothing is another one.
func TestDead(t *testing.T) {
	d := written(t, 2, api.Cell{N: 1, S: "a"})
	hold(t, d.Crash(api.Crash{Keep: "\x01", Torn: -1}), api.OK)
	for _, n := range []int{-1, 0, 1, 2} {
		hold(t, d.Write(n, fill("b")), api.ErrDead)
		hold(t, d.Write(n, "b"), api.ErrDead)
		if s, err := d.Read(n); s != "" || err != api.ErrDead {
			t.Errorf("Read(%d): %q, %d", n, s, err)
		}
		hold(t, d.Arm(n, api.Crash{}), api.ErrDead)
	}
	hold(t, d.Flush(), api.ErrDead)
	hold(t, d.Crash(api.Crash{}), api.ErrDead)
	holdState(t, d, true, 1)
	holdImage(t, d, noughts(1)+fill("a"))
	if d.Sectors() != 2 {
		t.Errorf("Sectors: %d", d.Sectors())
	}
	d.Revive()
	holdState(t, d, false, 1)
	holdRead(t, d, 0, noughts(1))
	holdRead(t, d, 1, fill("a"))
	hold(t, d.Write(0, fill("b")), api.OK)
	hold(t, d.Flush(), api.OK)
	holdImage(t, d, fill("b")+fill("a"))
	holdState(t, d, false, 3)
}

// P18.4: a clone tells the same, and each goes its own way.
func TestClone(t *testing.T) {
	d := written(t, 2, api.Cell{N: 0, S: "a"})
	hold(t, d.Flush(), api.OK)
	hold(t, d.Write(0, fill("b")), api.OK)
	c := d.Clone()
	holdRead(t, c, 0, fill("b"))
	holdImage(t, c, fill("a")+noughts(1))
	holdState(t, c, false, 3)
	hold(t, c.Write(1, fill("c")), api.OK)
	hold(t, d.Write(1, fill("d")), api.OK)
	holdRead(t, c, 1, fill("c"))
	holdRead(t, d, 1, fill("d"))
	hold(t, c.Flush(), api.OK)
	holdImage(t, c, fill("b")+fill("c"))
	holdImage(t, d, fill("a")+noughts(1))
	hold(t, d.Crash(api.Crash{Keep: "\x02", Torn: -1}), api.OK)
	holdImage(t, d, fill("a")+fill("d"))
	holdImage(t, c, fill("b")+fill("c"))
	holdState(t, c, false, 5)
	holdState(t, d, true, 4)
}

// P18.4: an armed one's power goes in the same step, in each by itself, and what it had stays the other's.
func TestCloneArmed(t *testing.T) {
	d := written(t, 1, api.Cell{N: 0, S: "a"})
	hold(t, d.Arm(2, api.Crash{Keep: "\x04", Torn: 1, Bytes: 2}), api.OK)
	hold(t, d.Write(0, fill("b")), api.OK)
	c := d.Clone()
	hold(t, c.Write(0, fill("c")), api.ErrDead)
	holdImage(t, c, fill("c"))
	holdState(t, c, true, 3)
	holdState(t, d, false, 2)
	holdRead(t, d, 0, fill("b"))
	e := d.Clone()
	e.Revive()
	hold(t, e.Write(0, fill("e")), api.OK)
	hold(t, d.Flush(), api.ErrDead)
	holdImage(t, d, "bb"+noughts(1)[2:])
	holdState(t, d, true, 3)
	holdState(t, e, false, 3)
	holdRead(t, e, 0, fill("e"))
	f := d.Clone()
	d.Revive()
	holdState(t, d, false, 3)
	holdState(t, f, true, 3)
	hold(t, f.Write(0, fill("f")), api.ErrDead)
	hold(t, d.Write(0, fill("g")), api.OK)
	holdImage(t, f, "bb"+noughts(1)[2:])
}
