package wal

import (
	"strings"
	"testing"

	"zoetrope/api"
	"zoetrope/disk"
)

// crashes are falls of few loose writes: each subset of them kept, each one torn or none, at some bytes.
func crashes(writes int, bytes []int) []api.Crash {
	var l []api.Crash
	for keep := range 1 << writes {
		for torn := -1; torn <= writes; torn++ {
			for _, b := range bytes {
				l = append(l, api.Crash{Keep: string([]byte{byte(keep)}), Torn: torn, Bytes: b})
				if torn < 0 || torn == writes {
					break
				}
			}
		}
	}
	return l
}

var allBytes = func() []int {
	var l []int
	for b := range 65 {
		l = append(l, b)
	}
	return l
}()

var someBytes = []int{-1, 0, 1, 2, 3, 5, 6, 7, 9, 39, 40, 41, 57, 58, 61, 62, 63, 64, 65}

// own are a log's own sectors, one behind the other.
func own(t *testing.T, l *Log) string {
	t.Helper()
	var b strings.Builder
	for n := range l.Sectors() {
		s, err := l.Read(n)
		hold(t, err, api.OK)
		b.WriteString(s)
	}
	return b.String()
}

// changed are own sectors behind a change.
func changed(s string, cells []api.Cell) string {
	for _, c := range cells {
		s = with(s, 64*c.N, c.S)
	}
	return s
}

// P19.1, P19.5: the power goes in each step of a Format: behind it there is a log or none, its own sectors as they were.
func TestFormatCrash(t *testing.T) {
	image := noughts(34) + strings.Repeat(fill("o"), 8)
	for step := 1; step <= 4; step++ {
		for _, c := range crashes(2, allBytes) {
			d := imaged(t, image)
			hold(t, d.Arm(step, c), api.OK)
			want := d.Clone()
			l, err := Format(d)
			wantErr := done(want, formatSteps())
			hold(t, err, wantErr)
			holdDisk(t, d, want)
			if (l != nil) != (step == 4) || (err == api.ErrDead) != (step < 4) {
				t.Fatalf("step %d: %v, %d", step, l, err)
			}
			d.Revive()
			k, err := Open(d)
			if err != api.ErrWalForm && err != api.OK || step == 4 && err != api.OK {
				t.Fatalf("step %d, %+v: %d", step, c, err)
			}
			if err == api.OK && (k.Number() != 1 || own(t, k) != image[34*64:]) {
				t.Fatalf("step %d, %+v: Number %d", step, c, k.Number())
			}
			l, err = Format(d)
			hold(t, err, api.OK)
			if own(t, l) != image[34*64:] || l.Number() != 1 {
				t.Fatalf("step %d, %+v: formatted anew %d", step, c, l.Number())
			}
		}
	}
}

// P19.1: likewise over a log that was there: what is on the disk then, and what Open tells of it, are the model's.
func TestFormatCrashOverLog(t *testing.T) {
	l, old := formatted(t, 42)
	for i := range 4 {
		hold(t, l.Commit([]api.Cell{cell(i, "a"), cell(i+1, "b")}), api.OK)
		for step := 1; step <= 3; step++ {
			for _, c := range crashes(2, someBytes) {
				d := old.Clone()
				hold(t, d.Arm(step, c), api.OK)
				want := d.Clone()
				k, err := Format(d)
				if k != nil || err != api.ErrDead {
					t.Fatalf("%v, %d", k, err)
				}
				hold(t, done(want, formatSteps()), api.ErrDead)
				d.Revive()
				want.Revive()
				k, err = Open(d)
				o, wantErr := modelOpen(want)
				hold(t, err, wantErr)
				holdDisk(t, d, want)
				if err == api.OK {
					o.hold(t, k, d)
				}
			}
		}
	}
}

// histories are disks of logs ahead of a change: just formatted, behind one change, behind several ones of the same sectors, with numbers that carry into the next byte.
func histories(t *testing.T) []*disk.Disk {
	var row []*disk.Disk
	l, d := formatted(t, 50)
	row = append(row, d.Clone())
	hold(t, l.Commit([]api.Cell{cell(0, "a"), cell(1, "b")}), api.OK)
	row = append(row, d.Clone())
	hold(t, l.Commit([]api.Cell{cell(0, "c"), cell(2, "d"), cell(15, "e")}), api.OK)
	row = append(row, d.Clone())
	hold(t, l.Commit(nil), api.OK)
	row = append(row, d.Clone())
	for _, n := range []int{253, 254, 255, 256, 65534, 65535, 1<<24 - 1, 1<<24 - 2, 1<<32 - 2} {
		heads := []string{noughts(1), noughts(1)}
		heads[n%2] = laid(n, []int{0, 5}, sumOfFill("rs"[n%2:n%2+1], 2))
		if n > 1<<16 {
			heads[1-n%2] = laid(n-1, []int{1, 5}, sumOfFill("sr"[n%2:n%2+1], 2))
		}
		row = append(row, headed(t, heads[0], heads[1], 16))
	}
	return row
}

var changes = [][]api.Cell{
	nil,
	{{N: 0, S: fill("v")}},
	{{N: 0, S: fill("w")}, {N: 15, S: fill("x")}},
	{{N: 1, S: fill("\x00")}, {N: 2, S: fill("y")}, {N: 5, S: fill("z")}},
}

// crashed is a log behind a change in which the power went, or just not: its disk, and its own sectors ahead of and behind the change.
type crashed struct {
	d             *disk.Disk
	before, after string
	number        int // ahead of it
	isDone        bool
}

// goneIn makes a change on a clone of a disk, with the power going in a step.
func goneIn(t *testing.T, old *disk.Disk, cells []api.Cell, step int, c api.Crash) crashed {
	t.Helper()
	d := old.Clone()
	l := opened(t, d)
	x := crashed{d: d, number: l.Number(), before: own(t, l)}
	x.after = changed(x.before, cells)
	hold(t, d.Arm(step, c), api.OK)
	want := d.Clone()
	err := l.Commit(cells)
	hold(t, err, done(want, commitSteps(l.number+boolInt(err != api.OK), cells)))
	holdDisk(t, d, want)
	x.isDone = err == api.OK
	if l.Dead() == x.isDone || l.Number() != x.number+boolInt(x.isDone) {
		t.Fatalf("step %d: %d, Dead %v, Number %d", step, err, l.Dead(), l.Number())
	}
	d.Revive()
	return x
}

func boolInt(b bool) int {
	if b {
		return 1
	}
	return 0
}

// holdFound holds what a log tells that was opened behind a crash, and answers whether the change is made.
func (x crashed) holdFound(t *testing.T, l *Log) bool {
	t.Helper()
	got := own(t, l)
	isMade := l.Number() == x.number+1
	if !isMade && l.Number() != x.number || x.isDone && !isMade {
		t.Fatalf("Number %d, ahead of the change %d, done %v", l.Number(), x.number, x.isDone)
	}
	if isMade && got != x.after || !isMade && got != x.before {
		t.Fatalf("Number %d, ahead of the change %d: %q", l.Number(), x.number, got)
	}
	return isMade
}

func stepsOf(cells []api.Cell) int { return 2*len(cells) + 4 }

// P19.5: the power goes in each step of a change, each subset of the loose writes kept, each one torn: it is made wholly or not at all, and made from the head's Flush on.
func TestCommitCrash(t *testing.T) {
	for _, old := range histories(t) {
		for _, cells := range changes {
			for step := 1; step <= stepsOf(cells)+1; step++ {
				for _, c := range crashes(len(cells), []int{-1, 0, 1, 33, 63, 64, 65}) {
					x := goneIn(t, old, cells, step, c)
					isMade := x.holdFound(t, opened(t, x.d))
					if x.isDone != (step > stepsOf(cells)) || isMade && step <= len(cells)+1 || !isMade && step > len(cells)+3 {
						t.Fatalf("step %d, %+v: done %v, made %v", step, c, x.isDone, isMade)
					}
				}
			}
		}
	}
}

// P19.5: a head that is torn at each of its bytes is the new one just where all of it is there.
func TestHeadTorn(t *testing.T) {
	for i, old := range histories(t) {
		for _, cells := range changes {
			for _, bytes := range allBytes {
				for isFlush := range 2 {
					x := goneIn(t, old, cells, len(cells)+2+isFlush, api.Crash{Torn: 0, Bytes: bytes})
					isMade := x.holdFound(t, opened(t, x.d))
					if bytes < 62 && isMade || bytes == 64 && !isMade {
						t.Fatalf("history %d, %d cells, %d bytes: made %v", i, len(cells), bytes, isMade)
					}
				}
			}
		}
	}
}

// P19.5: sixteen cells: the power goes in each step, with few kept ones.
func TestCommitCrashSixteen(t *testing.T) {
	var cells []api.Cell
	for i := range 16 {
		cells = append(cells, cell(i, string([]byte{byte('A' + i)})))
	}
	for _, old := range histories(t) {
		for step := 1; step <= stepsOf(cells)+1; step++ {
			for _, keep := range []string{"", "\xff\xff", "\x55\x55", "\x00\xff", "\xfe"} {
				for _, torn := range []int{-1, 0, 7, 15, 16} {
					x := goneIn(t, old, cells, step, api.Crash{Keep: keep, Torn: torn, Bytes: 17})
					x.holdFound(t, opened(t, x.d))
				}
			}
		}
	}
}

// P19.5: the power goes while a log is opened behind a crash, twice, in each of its steps: what was found first is found again.
func TestOpenCrash(t *testing.T) {
	cells := []api.Cell{cell(0, "w"), cell(5, "x")}
	for _, old := range histories(t)[:8] {
		for step := 1; step <= stepsOf(cells); step++ {
			for _, c := range crashes(2, []int{0, 9, 63}) {
				x := goneIn(t, old, cells, step, c)
				isMade := x.holdFound(t, opened(t, x.d.Clone()))
				for openStep := 1; openStep <= 3; openStep++ {
					for _, first := range crashes(1, []int{1, 63}) {
						d := x.d.Clone()
						for _, second := range []api.Crash{first, {Keep: "\x02", Torn: 0, Bytes: 30}} {
							openGone(t, d, openStep, second)
						}
						if x.holdFound(t, opened(t, d)) != isMade {
							t.Fatalf("step %d: made %v ahead of the second crash", step, isMade)
						}
					}
				}
			}
		}
	}
}

// openGone opens a log with the power going in a step, as the model does.
func openGone(t *testing.T, d *disk.Disk, step int, c api.Crash) {
	t.Helper()
	hold(t, d.Arm(step, c), api.OK)
	want := d.Clone()
	l, err := Open(d)
	_, wantErr := modelOpen(want)
	hold(t, err, wantErr)
	holdDisk(t, d, want)
	if (l == nil) != (err != api.OK) || err != api.OK && err != api.ErrDead {
		t.Fatalf("%v, %d", l, err)
	}
	d.Revive()
}

// P19.5: behind a crash a log goes on, with the number that comes then, and the power goes again.
func TestCrashAndOn(t *testing.T) {
	for _, old := range histories(t)[:8] {
		for step := 1; step <= stepsOf(changes[2]); step++ {
			for _, c := range crashes(2, []int{3, 62}) {
				x := goneIn(t, old, changes[2], step, c)
				for again := 1; again <= stepsOf(changes[3])+1; again++ {
					y := goneIn(t, x.d, changes[3], again, api.Crash{Keep: "\x02", Torn: 0, Bytes: 11})
					l := opened(t, y.d)
					y.holdFound(t, l)
					number := l.Number()
					hold(t, l.Commit(changes[1]), api.OK)
					k := opened(t, y.d)
					if k.Number() != number+1 || own(t, k) != own(t, l) {
						t.Fatalf("Number %d, wanted %d", k.Number(), number+1)
					}
				}
			}
		}
	}
}
