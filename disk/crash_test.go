package disk

import (
	"math"
	"strings"
	"testing"

	"zoetrope/api"
)

// none is a crash that leaves nothing.
var none = api.Crash{Torn: -1}

// P18.3: the chapter's example, and its likes: what is torn is laid over what the sector has then.
func TestExample(t *testing.T) {
	for i, x := range []struct {
		crash api.Crash
		want  string
	}{
		{api.Crash{Keep: "\x01", Torn: 1, Bytes: 3}, "bbb" + fill("a")[3:]},
		{api.Crash{Keep: "\x00", Torn: 1, Bytes: 3}, "bbb" + noughts(1)[3:]},
		{api.Crash{Keep: "\x02", Torn: 0, Bytes: 3}, fill("b")},
		{api.Crash{Keep: "", Torn: 0, Bytes: 3}, "aaa" + noughts(1)[3:]},
		{api.Crash{Keep: "\x03", Torn: 0, Bytes: 0}, fill("b")},
		{api.Crash{Keep: "\x03", Torn: 1, Bytes: 0}, fill("a")},
		{api.Crash{Keep: "\x03", Torn: 2, Bytes: 0}, fill("b")},
		{api.Crash{Keep: "\x01", Torn: 2, Bytes: 9}, fill("a")},
		{api.Crash{Keep: "\xfc", Torn: -1, Bytes: 9}, noughts(1)},
	} {
		d := written(t, 2, api.Cell{N: 0, S: "a"}, api.Cell{N: 0, S: "b"})
		hold(t, d.Crash(x.crash), api.OK)
		if d.Image() != x.want+noughts(1) {
			t.Errorf("%d: %q", i, d.Image())
		}
		holdState(t, d, true, 2)
	}
}

// P18.3: a torn write at the row's beginning, in its middle and at its end, and beyond both.
func TestTorn(t *testing.T) {
	for torn, want := range map[int]string{
		math.MinInt: "xxxxx",
		-1:          "xxxxx",
		0:           "axxxx",
		2:           "xxcxx",
		4:           "xxxxe",
		5:           "xxxxx",
		math.MaxInt: "xxxxx",
	} {
		d := opened(t, strings.Repeat("x", 5*64))
		for n := range 5 {
			hold(t, d.Write(n, fill("abcde"[n:n+1])), api.OK)
		}
		hold(t, d.Crash(api.Crash{Torn: torn, Bytes: 10}), api.OK)
		for n := range 5 {
			if got := d.Image()[64*n:][:64]; got != strings.Repeat(want[n:n+1], 10)+fill("x")[10:] {
				t.Errorf("Torn %d, sector %d: %q", torn, n, got)
			}
		}
	}
}

// P18.3: how much of it is there, whether Keep has its bit or not.
func TestTornBytes(t *testing.T) {
	for bytes, want := range map[int]int{math.MinInt: 0, -1: 0, 0: 0, 1: 1, 2: 2, 63: 63, 64: 64, 65: 64, math.MaxInt: 64} {
		for _, keep := range []string{"", "\x00", "\x01", "\xff\xff"} {
			d := opened(t, fill("x"))
			hold(t, d.Write(0, fill("a")), api.OK)
			hold(t, d.Crash(api.Crash{Keep: keep, Torn: 0, Bytes: bytes}), api.OK)
			if d.Image() != strings.Repeat("a", want)+strings.Repeat("x", 64-want) {
				t.Errorf("Bytes %d, Keep %q: %q", bytes, keep, d.Image())
			}
		}
	}
}

// P18.3: each bit of Keep by itself, also of those behind the first byte; bits that it has not are 0.
func TestKeep(t *testing.T) {
	for bit := range 30 {
		keep := make([]byte, 3)
		if bit < 24 {
			keep[bit/8] = 1 << (bit % 8)
		}
		d := made(t, 30)
		for n := range 30 {
			hold(t, d.Write(n, fill("k")), api.OK)
		}
		hold(t, d.Crash(api.Crash{Keep: string(keep), Torn: -1}), api.OK)
		want := noughts(30)
		if bit < 24 {
			want = noughts(bit) + fill("k") + noughts(29-bit)
		}
		if d.Image() != want {
			t.Errorf("bit %d: %q", bit, d.Image())
		}
	}
}

// P18.3: of several writes of one sector the last one that stays is there.
func TestKeepOrder(t *testing.T) {
	for keep := range 16 {
		d := written(t, 1, api.Cell{S: "a"}, api.Cell{S: "b"}, api.Cell{S: "c"}, api.Cell{S: "d"})
		hold(t, d.Crash(api.Crash{Keep: string([]byte{byte(keep)}), Torn: -1}), api.OK)
		want := noughts(1)
		for bit := range 4 {
			if keep>>bit%2 == 1 {
				want = fill("abcd"[bit : bit+1])
			}
		}
		if d.Image() != want {
			t.Errorf("Keep %d: %q", keep, d.Image())
		}
	}
}

// P18.3: the writes are counted from the last Flush on; behind a crash none is loose any more.
func TestCrashBehindFlush(t *testing.T) {
	d := written(t, 2, api.Cell{N: 0, S: "a"}, api.Cell{N: 1, S: "b"})
	hold(t, d.Flush(), api.OK)
	hold(t, d.Write(1, fill("c")), api.OK)
	hold(t, d.Crash(api.Crash{Keep: "\x01", Torn: -1}), api.OK)
	holdImage(t, d, fill("a")+fill("c"))
	d.Revive()
	hold(t, d.Write(0, fill("d")), api.OK)
	hold(t, d.Crash(none), api.OK)
	d.Revive()
	holdRead(t, d, 0, fill("a"))
	hold(t, d.Flush(), api.OK)
	holdImage(t, d, fill("a")+fill("c"))
	holdState(t, d, false, 6)
}

// P18.3: the power goes in the armed step, be it a Write or a Flush; that is a step, too.
func TestArm(t *testing.T) {
	for step := 1; step <= 7; step++ {
		for _, isFlush := range []bool{false, true} {
			d := made(t, 1)
			hold(t, d.Write(0, fill("o")), api.OK)
			hold(t, d.Flush(), api.OK)
			hold(t, d.Arm(step, api.Crash{Keep: "\xff", Torn: step - 1, Bytes: 5}), api.OK)
			for range step - 1 {
				hold(t, d.Write(0, fill("p")), api.OK)
			}
			before := d.Image()
			holdState(t, d, false, step+1)
			last, want := d.Flush, "ppppp"
			if !isFlush {
				last, want = func() api.Errno { return d.Write(0, fill("q")) }, "qqqqq"
			}
			hold(t, last(), api.ErrDead)
			holdState(t, d, true, step+2)
			if step > 1 {
				before = fill("p")
			} else if isFlush {
				want = "ooooo" // nothing was loose
			}
			holdImage(t, d, want+before[5:])
			hold(t, last(), api.ErrDead)
			holdState(t, d, true, step+2)
		}
	}
}

// P18.3: steps of both kinds count, what is sure ahead of the armed step stays, and a number that is never reached does nothing.
func TestArmFar(t *testing.T) {
	d := made(t, 1)
	hold(t, d.Arm(5, none), api.OK)
	for _, s := range []string{"a", "b"} {
		hold(t, d.Write(0, fill(s)), api.OK)
		hold(t, d.Flush(), api.OK)
	}
	hold(t, d.Write(0, fill("c")), api.ErrDead)
	holdImage(t, d, fill("b"))
	d.Revive()
	for _, step := range []int{201, 1 << 40, math.MaxInt} {
		hold(t, d.Arm(step, none), api.OK)
		for range 100 {
			hold(t, d.Write(0, fill("d")), api.OK)
			hold(t, d.Flush(), api.OK)
		}
	}
	holdState(t, d, false, 605)
	holdImage(t, d, fill("d"))
}

// P18.3: Arm of 0 takes it back, of less than 0 changes nothing, of another number is counted from then on with the new crash.
func TestArmAgain(t *testing.T) {
	d := made(t, 1)
	hold(t, d.Arm(1, none), api.OK)
	hold(t, d.Arm(0, none), api.OK)
	hold(t, d.Arm(0, none), api.OK)
	hold(t, d.Write(0, fill("a")), api.OK)
	hold(t, d.Arm(2, none), api.OK)
	for _, step := range []int{-1, -2, math.MinInt} {
		hold(t, d.Arm(step, api.Crash{Keep: "\xff", Torn: -1}), api.ErrArg)
	}
	hold(t, d.Flush(), api.OK)
	c := d.Clone()
	hold(t, c.Write(0, fill("b")), api.ErrDead)
	holdImage(t, c, fill("a"))
	hold(t, d.Arm(3, api.Crash{Torn: 1, Bytes: 1}), api.OK)
	hold(t, d.Write(0, fill("b")), api.OK)
	hold(t, d.Write(0, fill("c")), api.OK)
	hold(t, d.Write(0, fill("d")), api.ErrDead)
	holdImage(t, d, "c"+fill("a")[1:])
	hold(t, d.Arm(-1, none), api.ErrDead)
}

// P18.3: what is refused while it is armed, and what is asked, is no step.
func TestArmedRefused(t *testing.T) {
	d := made(t, 1)
	hold(t, d.Arm(1, none), api.OK)
	for range 3 {
		hold(t, d.Write(1, fill("x")), api.ErrDiskAt)
		hold(t, d.Write(-1, "x"), api.ErrDiskAt)
		hold(t, d.Write(0, "x"), api.ErrArg)
		hold(t, d.Arm(-1, none), api.ErrArg)
		holdRead(t, d, 0, noughts(1))
		holdImage(t, d, noughts(1))
		d.Clone()
	}
	holdState(t, d, false, 0)
	hold(t, d.Write(0, fill("x")), api.ErrDead)
	holdState(t, d, true, 1)
}

// P18.3: Crash takes the arming with it, and is no step.
func TestCrashArmed(t *testing.T) {
	d := written(t, 1, api.Cell{S: "a"})
	hold(t, d.Arm(1, none), api.OK)
	hold(t, d.Crash(api.Crash{Keep: "\x01", Torn: -1}), api.OK)
	holdState(t, d, true, 1)
	holdImage(t, d, fill("a"))
	d.Revive()
	hold(t, d.Write(0, fill("b")), api.OK)
	hold(t, d.Flush(), api.OK)
	holdImage(t, d, fill("b"))
}

// P18.3: the arming that has come true is gone; Revive takes one away, also where the power is there, and leaves what is loose.
func TestRevive(t *testing.T) {
	d := made(t, 1)
	d.Revive()
	holdState(t, d, false, 0)
	hold(t, d.Arm(1, none), api.OK)
	hold(t, d.Flush(), api.ErrDead)
	d.Revive()
	hold(t, d.Write(0, fill("a")), api.OK)
	hold(t, d.Arm(1, none), api.OK)
	d.Revive()
	d.Revive()
	holdRead(t, d, 0, fill("a"))
	holdImage(t, d, noughts(1))
	hold(t, d.Flush(), api.OK)
	holdImage(t, d, fill("a"))
	holdState(t, d, false, 3)
}

// P18.5: what was flushed stays, whatever crash comes.
func TestFlushedStays(t *testing.T) {
	for _, keep := range []string{"", "\x00", "\xff", "\xaa\x55"} {
		for torn := -1; torn <= 3; torn++ {
			for _, bytes := range []int{-1, 0, 1, 63, 64, 65} {
				d := written(t, 2, api.Cell{N: 0, S: "a"}, api.Cell{N: 1, S: "b"}, api.Cell{N: 0, S: "c"})
				hold(t, d.Flush(), api.OK)
				hold(t, d.Crash(api.Crash{Keep: keep, Torn: torn, Bytes: bytes}), api.OK)
				holdImage(t, d, fill("c")+fill("b"))
				d.Revive()
				holdRead(t, d, 0, fill("c"))
				holdRead(t, d, 1, fill("b"))
			}
		}
	}
}
