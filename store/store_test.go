package store

import (
	"math"
	"slices"
	"strings"
	"testing"

	"zoetrope/api"
	"zoetrope/disk"
)

const zeros = "\x00\x00\x00\x00"

func noughts(count int) string { return strings.Repeat("\x00", count) }

// padded is a text with noughts behind it.
func padded(s string, size int) string { return s + noughts(size-len(s)) }

// holdNone holds that a Format or an Open answers an error, no store, and leaves the disk as it was.
func holdNone(t *testing.T, d *disk.Disk, want api.Errno, begin func(*disk.Disk) (*Store, api.Errno)) {
	t.Helper()
	was := d.Clone()
	s, err := begin(d)
	if s != nil || err != want {
		t.Fatalf("%d sectors: %v, %d, wanted none, %d", d.Sectors(), s, err, want)
	}
	holdDisk(t, d, was)
}

func formatWith(pages int) func(*disk.Disk) (*Store, api.Errno) {
	return func(d *disk.Disk) (*Store, api.Errno) { return Format(d, pages) }
}

// The chapter's example.
func TestExample(t *testing.T) {
	p := formatted(t, 400, 4)
	p.free(t, 90)
	p.save(t, pointOf(0, 0, bytesOf(10, 1), "", zeros), api.OK)
	p.free(t, 85)
	if p.o.slots() != 91 {
		t.Error(p.o.slots())
	}
}

// P20.1: disks that are too small or too big, and those that are just not; the power there or gone.
func TestFormatSizes(t *testing.T) {
	for n, want := range map[int]api.Errno{1: api.ErrWalForm, 41: api.ErrWalForm, 42: api.ErrStoreForm, 66: api.ErrStoreForm, 67: api.OK, 68: api.OK, 70: api.OK, 71: api.OK, 4034: api.OK, 4035: api.ErrWalForm, 4096: api.ErrWalForm} {
		d := blankDisk(t, n)
		if want != api.OK {
			holdNone(t, d, want, formatWith(4))
		} else {
			p := formatted(t, n, 4)
			p.free(t, (n-35)/4-1)
			p.holdAll(t)
		}
		hold(t, d.Crash(api.Crash{}), api.OK)
		if want != api.ErrWalForm {
			want = api.ErrDead // it comes from the log, ahead of how many slots there are
		}
		holdNone(t, d, want, formatWith(4))
		holdNone(t, d, want, Open)
	}
}

// P20.1: how many pages a memory may have.
func TestFormatPages(t *testing.T) {
	for n, want := range map[int]api.Errno{math.MinInt: api.ErrStoreForm, -4: api.ErrStoreForm, 0: api.ErrStoreForm, 3: api.ErrStoreForm, 4: api.OK, 5: api.OK, 63: api.OK, 64: api.OK, 65: api.ErrStoreForm, 256 + 4: api.ErrStoreForm, math.MaxInt: api.ErrStoreForm} {
		if want == api.OK {
			p := formatted(t, 100, n)
			p.holdAll(t)
			if p.s.Pages() != n || len(p.s.Points()) != 0 || p.s.Log() != "" || p.s.End() != 0 || p.s.Dead() {
				t.Errorf("%d pages: %d, %v, %q, %d", n, p.s.Pages(), p.s.Points(), p.s.Log(), p.s.End())
			}
			continue
		}
		for _, sectors := range []int{41, 66, 100, 4035} { // ahead of all that is wrong with the disk
			d := blankDisk(t, sectors)
			holdNone(t, d, want, formatWith(n))
			hold(t, d.Crash(api.Crash{}), api.OK)
			holdNone(t, d, want, formatWith(n))
		}
	}
}

// P20.1: with too few slots the log's own error comes first, also where the power would go in it.
func TestFormatSmallArmed(t *testing.T) {
	for step := 1; step <= 6; step++ {
		d := blankDisk(t, 66)
		hold(t, d.Arm(step, api.Crash{Keep: "\xff", Torn: -1}), api.OK)
		want := api.ErrDead
		if step > 3 {
			want = api.ErrStoreForm
		}
		s, err := Format(d, 4)
		if s != nil || err != want || d.Dead() != (step <= 3) {
			t.Errorf("step %d: %v, %d, Dead %v", step, s, err, d.Dead())
		}
		if step > 3 && (d.Steps() != 0 || d.Image() != noughts(66*64)) {
			t.Errorf("step %d: Steps %d", step, d.Steps())
		}
	}
}

// P20.1: what Format writes: the catalog into the first slot, the root; all other slots stay as they are.
func TestFormatBytes(t *testing.T) {
	d, err := disk.Open(strings.Repeat("x", 70*64))
	hold(t, err, api.OK)
	s, err := Format(d, 5)
	hold(t, err, api.OK)
	root := padded("\x00\x0c\x00\x00", 64)
	catalog := padded("\x05\x00"+noughts(8)+"\x00\x00", 256)
	if got, want := d.Image()[34*64:], root+catalog+strings.Repeat("x", 31*64); got != want {
		t.Errorf("%q, wanted %q", got, want)
	}
	if d.Steps() != 3+12+6 || s.Free() != 7 {
		t.Errorf("Steps %d, Free %d", d.Steps(), s.Free())
	}
}

// P20.1: formatted anew a store has nothing of what was there, and all slots but its catalog's are free.
func TestFormatAgain(t *testing.T) {
	p := formatted(t, 150, 4)
	p.save(t, pointOf(0, 3, "r", "l", "abcd"), api.OK)
	p.save(t, pointOf(5, 7, "r", "log", "abcx"), api.OK)
	var err api.Errno
	p.s, err = Format(p.d, 6)
	hold(t, err, api.OK)
	p.o, err = modelFormat(p.o.d, 6)
	hold(t, err, api.OK)
	p.holdAll(t)
	p.free(t, 27)
	if p.s.Pages() != 6 || len(p.s.Points()) != 0 || p.s.Log() != "" || p.s.End() != 0 {
		t.Error(p.s.Pages(), p.s.Points(), p.s.Log(), p.s.End())
	}
	p.save(t, pointOf(2, 3, "r", "l", "abcdef"), api.OK)
}

// own are the bytes of a slot.
func slotBytes(d *disk.Disk, k int) string {
	return d.Image()[(35+4*k)*64 : (39+4*k)*64]
}

func rootBytes(d *disk.Disk) string { return d.Image()[34*64 : 35*64] }

// holdSlots holds slots' bytes, each filled with noughts.
func holdSlots(t *testing.T, d *disk.Disk, want map[int]string) {
	t.Helper()
	for k, s := range want {
		if got := slotBytes(d, k); got != padded(s, 256) {
			t.Fatalf("slot %d: %q, wanted %q", k, got, s)
		}
	}
}

func page(c string) string { return strings.Repeat(c, 256) }

// P20.2: the bytes of a store behind each of some calls: in which slots what is laid, which are shared, and which are taken anew.
func TestBytes(t *testing.T) {
	p := formatted(t, withSlots(16), 4)
	steps := p.d.Steps()
	p.save(t, pointOf(0, 3, "rrrrrrrrrr", "log", "abca"), api.OK)
	p.free(t, 16-7)
	if p.d.Steps() != steps+7*12+6 {
		t.Errorf("Steps %d", p.d.Steps()-steps)
	}
	old := padded("\x04\x00"+noughts(10), 256)
	first := noughts(8) + "\x00\x0a\x00\x01" + "\x00\x02\x00\x03\x00\x04\x00\x05" // the last page is as the first one, in a slot of its own
	catalog := "\x04\x01" + first + noughts(7) + "\x03" + "\x00\x03\x00\x06"
	holdSlots(t, p.d, map[int]string{0: old, 1: "rrrrrrrrrr", 2: page("a"), 3: page("b"), 4: page("c"), 5: page("a"), 6: "log", 7: catalog, 8: "", 9: ""})
	if got := rootBytes(p.d); got != padded("\x00\x22\x00\x07", 64) {
		t.Errorf("root %q", got)
	}
	// The old catalog's slot is the least free one; the second page is another one; the log is the same.
	long := bytesOf(257, 5)
	p.save(t, pointOf(5, 300, long, "log", "axca"), api.OK)
	p.free(t, 16-10)
	second := noughts(7) + "\x05" + "\x01\x01\x00\x00\x00\x08" + "\x00\x02\x00\x09\x00\x04\x00\x05"
	catalog2 := "\x04\x02" + first + second + noughts(6) + "\x01\x2c" + "\x00\x03\x00\x06"
	holdSlots(t, p.d, map[int]string{0: long[:256], 8: long[256:], 9: page("x"), 10: catalog2, 6: "log", 7: catalog})
	if got := rootBytes(p.d); got != padded("\x00\x38\x00\x0a", 64) {
		t.Errorf("root %q", got)
	}
	// The log's first piece is another one, its second one new.
	log := bytesOf(300, 9)
	p.sync(t, log, 1<<40, api.OK)
	p.free(t, 16-11)
	catalog3 := "\x04\x02" + first + second + "\x00\x00\x01\x00\x00\x00\x00\x00" + "\x01\x2c\x00\x07\x00\x0b"
	holdSlots(t, p.d, map[int]string{7: log[:256], 11: log[256:], 12: catalog3, 10: catalog2, 6: "log"})
	// The first point is gone from no slot: it can't be pruned; the second one's slots but those that are shared are free.
	p.prune(t, 0, api.ErrStoreForm)
	p.prune(t, 5, api.OK)
	p.free(t, 16-8)
	catalog4 := "\x04\x01" + first + "\x00\x00\x01\x00\x00\x00\x00\x00" + "\x01\x2c\x00\x07\x00\x0b"
	holdSlots(t, p.d, map[int]string{6: catalog4, 12: catalog3})
	if got := rootBytes(p.d); got != padded("\x00\x24\x00\x06", 64) {
		t.Errorf("root %q", got)
	}
}

// P20.2: of a point's numbers the least and the greatest.
func TestSaveCounts(t *testing.T) {
	for _, x := range []struct {
		count, end int
		want       api.Errno
	}{
		{math.MinInt, 9, api.ErrStoreForm}, {-1, 9, api.ErrStoreForm}, {0, 9, api.OK}, {1, 9, api.OK}, {9, 9, api.OK},
		{10, 9, api.ErrStoreForm}, {0, -1, api.ErrStoreForm}, {0, 0, api.OK}, {1, 0, api.ErrStoreForm},
		{1 << 40, 1 << 40, api.OK}, {1 << 40, 1<<40 - 1, api.ErrStoreForm}, {0, 1 << 40, api.OK}, {0, 1<<40 + 1, api.ErrStoreForm},
		{1<<40 + 1, 1<<40 + 1, api.ErrStoreForm}, {1<<40 + 1, 1 << 40, api.ErrStoreForm}, {math.MaxInt, math.MaxInt, api.ErrStoreForm},
		{0, math.MaxInt, api.ErrStoreForm}, {-1, -1, api.ErrStoreForm}, {math.MinInt, math.MinInt, api.ErrStoreForm},
	} {
		formatted(t, withSlots(8), 4).save(t, pointOf(x.count, x.end, "", "", "abcd"), x.want)
	}
	for _, x := range []struct {
		count, end int
		want       api.Errno
	}{
		{6, 20, api.ErrStoreForm}, {7, 20, api.ErrStoreForm}, {8, 20, api.OK}, {-1, 20, api.ErrStoreForm}, {0, 20, api.ErrStoreForm},
		{8, 11, api.ErrStoreForm}, {8, 12, api.OK}, {13, 12, api.ErrStoreForm}, {12, 12, api.OK}, {13, 13, api.OK}, {1 << 40, 1 << 40, api.OK},
	} {
		p := formatted(t, withSlots(20), 4)
		p.save(t, pointOf(7, 12, "", "", "abcd"), api.OK)
		p.save(t, pointOf(x.count, x.end, "", "", "abcd"), x.want)
	}
}

// P20.2: pages of other sizes, and other counts of them.
func TestSavePages(t *testing.T) {
	for _, pages := range []int{4, 5, 64} {
		p := formatted(t, withSlots(80), pages)
		good := pointOf(0, 0, "", "", strings.Repeat("p", pages))
		for _, n := range []int{0, 1, pages - 1, pages + 1, 2 * pages} {
			p.save(t, pointOf(0, 0, "", "", strings.Repeat("p", n)), api.ErrStoreForm)
		}
		for _, size := range []int{0, 1, 255, 257, 512} {
			for _, i := range []int{0, pages / 2, pages - 1} {
				bad := good
				bad.Pages = slices.Clone(good.Pages)
				bad.Pages[i] = strings.Repeat("p", size)
				p.save(t, bad, api.ErrStoreForm)
			}
		}
		p.save(t, good, api.OK)
	}
}

// P20.2: rests and logs of the least and the greatest sizes, and of those at which a piece begins.
func TestSizes(t *testing.T) {
	for _, x := range []struct {
		size, pieces int
		rest, log    api.Errno
	}{
		{0, 0, api.OK, api.OK}, {1, 1, api.OK, api.OK}, {10, 1, api.OK, api.OK}, {255, 1, api.OK, api.OK}, {256, 1, api.OK, api.OK}, {257, 2, api.OK, api.OK}, {512, 2, api.OK, api.OK}, {513, 3, api.OK, api.OK},
		{2000, 8, api.OK, api.OK}, {2001, 8, api.ErrStoreForm, api.OK}, {8192, 32, api.ErrStoreForm, api.OK}, {8193, 33, api.ErrStoreForm, api.ErrStoreForm}, {70000, 0, api.ErrStoreForm, api.ErrStoreForm},
	} {
		s := bytesOf(x.size, 3)
		for i, want := range []api.Errno{x.rest, x.log, x.log} {
			p := formatted(t, withSlots(50), 4)
			pages := 4
			switch i {
			case 0:
				p.save(t, pointOf(0, 0, s, "", "abcd"), want)
			case 1:
				p.save(t, pointOf(0, 0, "", s, "abcd"), want)
			default:
				p.sync(t, s, 0, want)
				pages = 0
			}
			if want == api.OK {
				p.free(t, 49-pages-x.pieces)
			} else {
				p.free(t, 49)
			}
		}
	}
}

// P20.2: noughts at a text's end are of its own; the pieces are the same though, and shared.
func TestNoughts(t *testing.T) {
	p := formatted(t, withSlots(20), 4)
	p.save(t, pointOf(0, 0, "r\x00\x00", "l", zeros), api.OK)
	p.free(t, 20-1-4-1-1)
	p.sync(t, "l\x00\x00", 0, api.OK)
	p.free(t, 20-1-4-1-1)
	p.sync(t, padded("l", 256), 0, api.OK)
	p.free(t, 20-1-4-1-1)
	p.sync(t, padded("l", 257), 0, api.OK)
	p.free(t, 20-1-4-1-2)
	p.sync(t, "", 0, api.OK)
	p.free(t, 20-1-4-1)
	p.sync(t, noughts(3), 0, api.OK)
	p.free(t, 20-1-4-1-1)
}

// P20.2: pages are shared with the last point's of the same number, with no other one's; rests are shared with none.
func TestShared(t *testing.T) {
	p := formatted(t, withSlots(60), 4)
	for i, x := range []struct {
		fill string
		used int // by this point, beside a slot for its rest
	}{
		{"aaaa", 4}, {"aaaa", 0}, {"abaa", 1}, {"baaa", 2}, {"aabb", 3}, {"aabb", 0}, {"cdef", 4}, {"fedc", 4}, {"fedc", 0}, {"xedc", 1}, {"xedy", 1},
	} {
		free := p.s.Free()
		p.save(t, pointOf(i, i, "rest", "log", x.fill), api.OK)
		if i == 0 {
			x.used++ // the log
		}
		p.free(t, free-x.used-1)
	}
}

// P20.2: logs that grow, shrink and change in the midst: pieces at the same places are shared.
func TestLogs(t *testing.T) {
	p := formatted(t, withSlots(90), 4)
	p.save(t, pointOf(0, 0, "", "", "abcd"), api.OK)
	log := bytesOf(8192, 1)
	moved := bytesOf(256, 77) + log[:8192-256]
	for i, x := range []struct {
		log  string
		used int
	}{
		{log[:100], 1}, {log[:256], 1}, {log[:300], 2}, {log[:1000], 4}, {log[:999], 4}, {log, 32}, {log[:4000] + "!" + log[4001:], 32}, {log[:600], 3}, {moved, 32}, {moved[256:512], 1}, {"", 0}, {log[256:2048], 7},
	} {
		p.sync(t, x.log, i, api.OK)
		p.free(t, 90-1-4-x.used)
	}
}

// P20.2: End only grows, in a Sync as in a Save.
func TestSyncEnd(t *testing.T) {
	p := formatted(t, withSlots(9), 4)
	for _, x := range []struct {
		end  int
		want api.Errno
	}{
		{-1, api.ErrStoreForm}, {math.MinInt, api.ErrStoreForm}, {0, api.OK}, {5, api.OK}, {5, api.OK}, {4, api.ErrStoreForm}, {0, api.ErrStoreForm}, {6, api.OK},
		{1<<40 + 1, api.ErrStoreForm}, {math.MaxInt, api.ErrStoreForm}, {1 << 40, api.OK}, {1<<40 - 1, api.ErrStoreForm}, {1 << 40, api.OK},
	} {
		p.sync(t, "log", x.end, x.want)
	}
}

// P20.2: sixteen points are the most, whatever else is free; form is asked ahead of it.
func TestSixteen(t *testing.T) {
	p := formatted(t, withSlots(60), 4)
	for i := range 16 {
		p.save(t, pointOf(3*i, 3*i, "r", "", "abcd"), api.OK)
	}
	p.save(t, pointOf(100, 100, "", "", "abcd"), api.ErrStoreFull)
	p.save(t, pointOf(45, 100, "", "", "abcd"), api.ErrStoreForm)
	p.save(t, pointOf(100, 100, "", "", "abc"), api.ErrStoreForm)
	p.sync(t, "log", 100, api.OK)
	p.prune(t, 45, api.OK)
	p.save(t, pointOf(46, 100, "", "", "abcd"), api.OK)
	p.save(t, pointOf(47, 100, "", "", "abcd"), api.ErrStoreFull)
	p.prune(t, 3, api.OK)
	p.save(t, pointOf(47, 100, "", "", "abcd"), api.OK)
	if want := []int{0, 6, 9, 12, 15, 18, 21, 24, 27, 30, 33, 36, 39, 42, 46, 47}; !slices.Equal(p.s.Points(), want) {
		t.Errorf("%v", p.s.Points())
	}
}

// P20.2: one slot too few, and just enough: all pieces, also the catalog's, need one that is free ahead of the call.
func TestRoom(t *testing.T) {
	for _, x := range []struct {
		rest, log int
		fill      string
		slots     int // that are needed ahead of it
	}{
		{0, 0, "abcd", 1 + 4 + 1}, {10, 0, "abcd", 1 + 1 + 4 + 1}, {300, 700, "abcd", 1 + 2 + 4 + 3 + 1}, {2000, 8192, "abcdefgh", 1 + 8 + 8 + 32 + 1},
	} {
		for by := -1; by <= 1; by++ {
			want := api.OK
			if by < 0 {
				want = api.ErrStoreFull
			}
			slots := x.slots + by
			if slots < 8 {
				continue
			}
			p := formatted(t, withSlots(slots), len(x.fill))
			steps := p.d.Steps()
			p.save(t, pointOf(0, 0, bytesOf(x.rest, 1), bytesOf(x.log, 2), x.fill), want)
			if want == api.OK {
				p.free(t, slots-(x.slots-1))
			} else {
				p.free(t, slots-1)
				if p.d.Steps() != steps {
					t.Errorf("Steps %d, wanted %d", p.d.Steps(), steps)
				}
			}
		}
	}
}

// P20.2, P20.3: on a store that is full nothing can be kept till something is free; what is shared needs no slot.
func TestFull(t *testing.T) {
	p := formatted(t, withSlots(11), 4)
	p.save(t, pointOf(0, 0, "r", "l", "abcd"), api.OK)
	p.free(t, 4)
	p.save(t, pointOf(1, 1, "r", "l", "xyzd"), api.ErrStoreFull)
	p.save(t, pointOf(1, 1, "r", "l", "xycd"), api.OK)
	p.free(t, 1)
	p.sync(t, "m", 2, api.ErrStoreFull)
	p.save(t, pointOf(2, 2, "r", "l", "xycd"), api.ErrStoreFull)
	p.save(t, pointOf(2, 2, "", "l", "xycd"), api.OK)
	p.sync(t, "l", 3, api.OK) // the catalog goes to and fro
	p.sync(t, "", 4, api.OK)
	p.free(t, 2)
	p.sync(t, "m", 5, api.OK)
	p.free(t, 1)
	p.sync(t, "mn", 6, api.ErrStoreFull)
	p.prune(t, 1, api.OK)
	p.free(t, 2)
}

// P20.3: a Prune needs slots for its catalog, ahead of those that it sets free: here two of them, and then one.
func TestPruneFull(t *testing.T) {
	p := formatted(t, withSlots(15), 4)
	for n := range 13 {
		p.save(t, pointOf(n, n, "", "", "abcd"), api.OK)
	}
	p.free(t, 10)
	p.save(t, pointOf(13, 13, bytesOf(2000, 1), "", "abcd"), api.OK) // its catalog has two pieces
	p.free(t, 1)
	p.prune(t, 1, api.ErrStoreFull)
	p.prune(t, 12, api.ErrStoreFull)
	p.prune(t, 0, api.ErrStoreForm)
	p.prune(t, 14, api.ErrStoreNone)
	p.prune(t, 13, api.OK)
	p.free(t, 10)
}

// P20.3: each point as it was saved, but with the log and End that are there by now; none beside them.
func TestLoad(t *testing.T) {
	p := formatted(t, withSlots(80), 4)
	saved := []api.Point{
		pointOf(0, 3, "", "", "abcd"),
		pointOf(4, 4, bytesOf(10, 1), bytesOf(700, 1), "abcx"),
		pointOf(5, 9, bytesOf(256, 2), bytesOf(300, 2), "wbcx"),
		pointOf(300, 400, bytesOf(257, 3), bytesOf(900, 3), "wbcx"),
		pointOf(1<<40-1, 1<<40-1, bytesOf(2000, 4), "log", "efgh"),
		pointOf(1<<40, 1<<40, "last", bytesOf(256, 5), "\x00\xff\x01\x02"),
	}
	for _, x := range saved {
		p.save(t, x, api.OK)
	}
	p.sync(t, "at the end", 1<<40, api.OK)
	for _, s := range []*Store{p.s, opened(t, p.d).s} {
		for _, want := range saved {
			want.Log, want.End = "at the end", 1<<40
			if got, err := s.Load(want.Count); err != api.OK || !samePoint(got, want) {
				t.Errorf("%d: %d, %v", want.Count, err, got)
			}
		}
		for _, n := range []int{math.MinInt, -1, 1, 3, 6, 1<<40 - 2, 1<<40 + 1, math.MaxInt} {
			if got, err := s.Load(n); err != api.ErrStoreNone || !samePoint(got, api.Point{}) {
				t.Errorf("%d: %d, %v", n, err, got)
			}
		}
	}
	if _, err := formatted(t, 100, 4).s.Load(0); err != api.ErrStoreNone {
		t.Error(err)
	}
}

// P20.3: points are pruned in the midst and at the end, the first one never, and none that is not there; what others name stays used.
func TestPrune(t *testing.T) {
	p := formatted(t, withSlots(60), 4)
	p.prune(t, 0, api.ErrStoreNone)
	p.save(t, pointOf(2, 2, "r", "log", "abcd"), api.OK)
	p.prune(t, 2, api.ErrStoreForm)
	p.save(t, pointOf(5, 5, "r", "log", "abxd"), api.OK)
	p.save(t, pointOf(7, 7, "rest", "log", "abxy"), api.OK)
	p.save(t, pointOf(9, 12, "r", "log", "abcd"), api.OK)
	p.free(t, 60-1-1-4-5-3)
	for _, n := range []int{math.MinInt, -1, 0, 1, 3, 4, 6, 8, 10, 12, math.MaxInt} {
		p.prune(t, n, api.ErrStoreNone)
	}
	p.prune(t, 2, api.ErrStoreForm)
	p.prune(t, 5, api.OK) // its third page is also that of 7
	p.free(t, 60-1-1-4-4-3)
	p.prune(t, 5, api.ErrStoreNone)
	p.prune(t, 9, api.OK)
	p.free(t, 60-1-1-4-4)
	if p.s.End() != 12 || p.s.Log() != "log" {
		t.Error(p.s.End(), p.s.Log())
	}
	p.save(t, pointOf(8, 11, "", "", "abxy"), api.ErrStoreForm)
	p.save(t, pointOf(8, 12, "", "log", "abxy"), api.OK) // above the last one that is left
	p.free(t, 60-1-1-4-4)
	p.prune(t, 8, api.OK)
	p.prune(t, 7, api.OK)
	p.free(t, 60-1-1-4-1)
	p.prune(t, 2, api.ErrStoreForm)
}

// holdDead holds what a dead store answers, and that it stays as it was ahead of the call in which the power went.
func (p pair) holdDead(t *testing.T) {
	t.Helper()
	if !p.s.Dead() || !p.o.w.Dead() {
		t.Fatal("not dead")
	}
	next := p.s.last() + 1
	end := max(next, p.s.End())
	fill := strings.Repeat("q", p.s.Pages())
	for _, x := range []struct{ got, model, want api.Errno }{
		{p.s.Save(pointOf(next, end, "", "", fill)), p.o.save(pointOf(next, end, "", "", fill)), api.ErrDead},
		{p.s.Save(pointOf(next, end, "", "", fill[1:])), p.o.save(pointOf(next, end, "", "", fill[1:])), api.ErrStoreForm},
		{p.s.Save(pointOf(next-1, end, "", "", fill)), p.o.save(pointOf(next-1, end, "", "", fill)), api.ErrStoreForm},
		{p.s.Sync("log", p.s.End()), p.o.sync("log", p.s.End()), api.ErrDead},
		{p.s.Sync(bytesOf(8193, 0), p.s.End()), p.o.sync(bytesOf(8193, 0), p.s.End()), api.ErrStoreForm},
		{p.s.Prune(next), p.o.prune(next), api.ErrStoreNone},
	} {
		if x.got != x.want || x.model != x.want {
			t.Fatalf("%d, %d, wanted %d", x.got, x.model, x.want)
		}
	}
	for i, n := range p.s.Points() {
		got, err := p.s.Load(n)
		if err != api.ErrDead || !samePoint(got, api.Point{}) {
			t.Fatalf("Load(%d): %v, %d", n, got, err)
		}
		want := api.ErrDead
		if i == 0 {
			want = api.ErrStoreForm
		}
		hold(t, p.s.Prune(n), want)
	}
	got, err := p.s.Load(next)
	if err != api.ErrStoreNone || !samePoint(got, api.Point{}) {
		t.Fatalf("%v, %d", got, err)
	}
	p.o.hold(t, p.s, p.d)
}

// P20.4: the power goes outside of any call: the first call that asks the disk for something hears of it.
func TestDead(t *testing.T) {
	three := func() pair {
		p := formatted(t, withSlots(40), 4)
		for n := range 3 {
			p.save(t, pointOf(n, n, "rest", "log", "abcd"), api.OK)
		}
		return p
	}
	for i, ask := range []func(*Store) api.Errno{
		func(s *Store) api.Errno { _, err := s.Load(1); return err },
		func(s *Store) api.Errno { return s.Save(pointOf(7, 7, "", "", "abcd")) },
		func(s *Store) api.Errno { return s.Sync("", 7) },
		func(s *Store) api.Errno { return s.Prune(1) },
	} {
		p := three()
		for _, d := range []*disk.Disk{p.d, p.o.d} {
			hold(t, d.Crash(api.Crash{}), api.OK)
		}
		for _, refused := range []api.Errno{p.s.Prune(0), p.s.Sync("", 1), p.s.Save(pointOf(2, 2, "", "", "abcd"))} {
			hold(t, refused, api.ErrStoreForm)
		}
		hold(t, p.s.Prune(9), api.ErrStoreNone)
		if p.s.Dead() || p.s.Free() != 40-1-1-4-3 {
			t.Fatalf("%d: Dead %v, Free %d", i, p.s.Dead(), p.s.Free())
		}
		hold(t, ask(p.s), api.ErrDead)
		_, err := p.o.load(1)
		hold(t, err, api.ErrDead)
		p.holdDead(t)
		p.d.Revive()
		p.o.d.Revive()
		p.holdDead(t)
		q := opened(t, p.d)
		if q.s.Dead() || !slices.Equal(q.s.Points(), []int{0, 1, 2}) {
			t.Fatalf("%d: Points %v", i, q.s.Points())
		}
	}
}

// P20.4: of a dead store ErrDead comes ahead of what has no room.
func TestDeadFull(t *testing.T) {
	p := formatted(t, withSlots(9), 4)
	p.save(t, pointOf(0, 0, "", "", "abcd"), api.OK)
	hold(t, p.s.Save(pointOf(1, 1, bytesOf(2000, 1), "", "abcd")), api.ErrStoreFull)
	hold(t, p.d.Crash(api.Crash{}), api.OK)
	hold(t, p.s.Sync("", 1), api.ErrDead)
	p.d.Revive()
	hold(t, p.s.Save(pointOf(1, 1, bytesOf(2000, 1), "", "abcd")), api.ErrDead)
	hold(t, p.s.Sync(bytesOf(8192, 1), 1), api.ErrDead)

	p = formatted(t, withSlots(40), 4)
	for n := range 16 {
		p.save(t, pointOf(n, n, "", "", "abcd"), api.OK)
	}
	hold(t, p.d.Crash(api.Crash{}), api.OK)
	hold(t, p.s.Save(pointOf(16, 16, "", "", "abcd")), api.ErrStoreFull) // it has not heard of it
	if p.s.Dead() {
		t.Error("dead by a call that asked nothing of the disk")
	}
	hold(t, p.s.Sync("", 16), api.ErrDead)
	hold(t, p.s.Save(pointOf(16, 16, "", "", "abcd")), api.ErrDead)
}

// P20.3: a Load of a store of which no call has heard that the power went, and came again, is as ever.
func TestRevivedUnheard(t *testing.T) {
	p := formatted(t, withSlots(9), 4)
	p.save(t, pointOf(0, 0, "r", "", "abcd"), api.OK)
	for _, d := range []*disk.Disk{p.d, p.o.d} {
		hold(t, d.Crash(api.Crash{}), api.OK)
		d.Revive()
	}
	p.holdAll(t)
	p.sync(t, "l", 0, api.OK)
}

// R3: lists of nothing are nothing, and beside errors all is empty.
func TestEmpty(t *testing.T) {
	p := formatted(t, withSlots(9), 4)
	if len(p.s.Points()) != 0 {
		t.Error(p.s.Points())
	}
	p.save(t, api.Point{}, api.ErrStoreForm)
	p.save(t, api.Point{Pages: []string{}}, api.ErrStoreForm)
}

// R4: pages that are handed in, and the room behind them, stay as they were and are not kept; what is told is new.
func TestListsStay(t *testing.T) {
	p := formatted(t, withSlots(40), 4)
	room := append(pointOf(0, 0, "", "", "abcd").Pages, "behind", "it")
	was := slices.Clone(room)
	x := pointOf(0, 0, "rest", "log", "")
	for n := range 3 {
		x.Count, x.End, x.Pages = n, n, room[:4]
		p.save(t, x, api.OK)
	}
	x.Count, x.End, x.Pages = 9, 9, room[:5]
	p.save(t, x, api.ErrStoreForm)
	if !slices.Equal(room, was) {
		t.Fatalf("%v", room)
	}
	for i := range room {
		room[i] = page("!")
	}
	p.holdAll(t)
	first, err := p.s.Load(1)
	hold(t, err, api.OK)
	counts := p.s.Points()
	for i := range first.Pages {
		first.Pages[i] = "?"
	}
	_ = append(first.Pages[:0], "x", "y")
	for i := range counts {
		counts[i] = -7
	}
	_ = append(counts[:1], 77)
	p.holdAll(t)
	p.prune(t, 1, api.OK)
	p.save(t, pointOf(5, 5, "", "", "abcd"), api.OK)
}

// R4: what a refused call had begun to put together is not kept.
func TestRefusedLeavesNothing(t *testing.T) {
	p := formatted(t, withSlots(12), 4)
	p.save(t, pointOf(0, 0, "r", "l", "abcd"), api.OK)
	p.save(t, pointOf(1, 1, "r", "l", "abcd"), api.OK)
	for range 3 {
		p.save(t, pointOf(2, 2, bytesOf(2000, 1), "other", "wxyz"), api.ErrStoreFull)
		p.sync(t, bytesOf(8192, 1), 3, api.ErrStoreFull)
		p.save(t, pointOf(1, 1, "r", "l", "abcd"), api.ErrStoreForm)
	}
	p.prune(t, 1, api.OK)
	p.save(t, pointOf(1, 1, "", "l", "abcd"), api.OK)
}

// P20.2: points of many pages, all others, till the slots are used up: also slots whose numbers have two bytes.
func TestManySlots(t *testing.T) {
	p := formatted(t, 4034, 64)
	p.free(t, 998)
	for n := range 16 {
		x := api.Point{Count: n, End: n, Rest: bytesOf(100, n), Log: bytesOf(500, n)}
		for i := range 64 {
			x.Pages = append(x.Pages, bytesOf(256, 64*n+i))
		}
		want := api.OK
		if n > 14 {
			want = api.ErrStoreFull
		}
		hold(t, p.s.Save(x), want)
		hold(t, p.o.save(x), want)
		p.o.hold(t, p.s, p.d)
	}
	p.prune(t, 7, api.OK)
	p.prune(t, 14, api.OK)
	p.sync(t, bytesOf(8192, 1), 1000, api.OK)
}

// P20.1: the greatest catalog that there can be is found again.
func TestGreatestCatalog(t *testing.T) {
	p := formatted(t, 2000, 64)
	fill := strings.Repeat("p", 64)
	for n := range 16 {
		x := pointOf(1<<40-16+n, 1<<40, bytesOf(2000, n), bytesOf(8192, 1), fill)
		hold(t, p.s.Save(x), api.OK)
		hold(t, p.o.save(x), api.OK)
	}
	p.holdAll(t)
	if len(p.s.root.slots) != 10 {
		t.Errorf("%d pieces", len(p.s.root.slots))
	}
}

// P20.2: a catalog of 31 pieces is kept, one of more is not (no store has so many points, so it is handed to the keeping itself).
func TestCatalogPieces(t *testing.T) {
	for points, want := range map[int]api.Errno{57: api.OK, 58: api.ErrStoreFull} {
		p := formatted(t, withSlots(80), 64)
		next := p.s.draft()
		for n := range points {
			next.points = append(next.points, point{count: n, pages: make([]int, 64)})
		}
		steps := p.d.Steps()
		hold(t, p.s.keep(next), want)
		if want == api.OK {
			if len(p.s.root.slots) != 31 || p.d.Steps() != steps+31*12+6 || len(p.s.points) != points {
				t.Errorf("%d points: %d pieces, Steps %d", points, len(p.s.root.slots), p.d.Steps()-steps)
			}
			if got := rootBytes(p.d); got[:4] != "\x1e\xc6\x00\x01" || got[62:] != "\x00\x1f" {
				t.Errorf("root %q", got)
			}
		} else if len(p.s.root.slots) != 1 || p.d.Steps() != steps || len(p.s.points) != 0 {
			t.Errorf("%d points: %d pieces, Steps %d", points, len(p.s.root.slots), p.d.Steps()-steps)
		}
	}
}
