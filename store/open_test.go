package store

import (
	"strings"
	"testing"

	"zoetrope/api"
	"zoetrope/disk"
	"zoetrope/wal"
)

// planted is a disk with a log, and on it slots that are full of letters, of which the last ones have a catalog's text instead, and a root that names these. Its last change is one without cells, so that the bytes stay as they are put there.
func planted(t *testing.T, slots int, text string) *disk.Disk {
	t.Helper()
	d := blankDisk(t, withSlots(slots))
	w, err := wal.Format(d)
	hold(t, err, api.OK)
	hold(t, w.Commit(nil), api.OK)
	var b strings.Builder
	count := piecesIn(len(text))
	for k := range slots - count {
		b.WriteString(page(string([]byte{byte('a' + k%26)})))
	}
	var own []int
	for i := range count {
		own = append(own, slots-count+i)
		b.WriteString(piece(text, i))
	}
	root := laid(2, len(text)) + names(own)
	return withOwn(t, d, root+noughts(64-len(root))+b.String())
}

// withOwn is a disk with other bytes in its log's own sectors.
func withOwn(t *testing.T, d *disk.Disk, bytes string) *disk.Disk {
	t.Helper()
	image := d.Image()[:34*64] + bytes
	if len(image) != len(d.Image()) {
		t.Fatalf("%d bytes, wanted %d", len(image), len(d.Image()))
	}
	d, err := disk.Open(image)
	hold(t, err, api.OK)
	return d
}

// withByte is a disk with another byte, counted from the root on.
func withByte(t *testing.T, d *disk.Disk, at int, b byte) *disk.Disk {
	t.Helper()
	bytes := []byte(d.Image()[34*64:])
	bytes[at] = b
	return withOwn(t, d, string(bytes))
}

// holdOpen opens a store on a clone of a disk, and holds it against the model's, and what is told of it; and then keeps something on it.
func holdOpen(t *testing.T, d *disk.Disk, want api.Errno) {
	t.Helper()
	got, wanted := d.Clone(), d.Clone()
	s, err := Open(got)
	o, wantErr := modelOpen(wanted)
	hold(t, wantErr, want)
	hold(t, err, want)
	holdDisk(t, got, wanted)
	if (s == nil) != (err != api.OK) {
		t.Fatalf("%v beside %d", s, err)
	}
	if s != nil {
		o.hold(t, s, got)
		o.holdLoads(t, s)
		hold(t, s.Sync("other", s.End()), o.sync("other", o.end))
		pair{s, got, o}.holdAll(t)
	}
}

// plainKept are points with rests and pages in slots of their own, or shared ones.
func plainKept(counts ...int) []kept {
	var row []kept
	for i, n := range counts {
		row = append(row, kept{count: n, rest: "rest", restSlots: []int{i}, pageSlots: []int{3, 4, i, 5}})
	}
	return row
}

// P20.1: catalogs that are just such bytes, or just not: each with slots that are there, so that it is only for one thing that it is refused.
func TestOpenCatalogs(t *testing.T) {
	zero := make([]int, 256)
	withRest := func(size int) []kept {
		return []kept{{count: 1, rest: noughts(size), restSlots: zero[:piecesIn(size)], pageSlots: zero[:4]}}
	}
	many := func(count int) []kept {
		var row []kept
		for n := range count {
			row = append(row, kept{count: n, pageSlots: zero[:4]})
		}
		return row
	}
	paged := func(pages int) []kept { return []kept{{count: 1, pageSlots: zero[:pages]}} }
	for i, x := range []struct {
		text string
		want api.Errno
	}{
		{catalogText(4, nil, 0, 0, nil), api.OK},
		{catalogText(4, nil, 7, 600, []int{1, 0, 2}), api.OK},
		{catalogText(4, plainKept(0), 0, 0, nil), api.OK},
		{catalogText(4, plainKept(0, 1, 2), 2, 0, nil), api.OK},
		{catalogText(4, plainKept(5, 6, 1<<40), 1<<40, 1, []int{9}), api.OK},
		{catalogText(4, plainKept(5, 6, 8), 7, 0, nil), api.ErrCorrupt},
		{catalogText(4, plainKept(5, 6, 1<<40), 1<<40-1, 0, nil), api.ErrCorrupt},
		{catalogText(4, plainKept(5, 6, 1<<40+1), 1<<40+1, 0, nil), api.ErrCorrupt},
		{catalogText(4, plainKept(5, 6, 1<<40+1), 1<<40, 0, nil), api.ErrCorrupt},
		{catalogText(4, plainKept(5, 5, 8), 9, 0, nil), api.ErrCorrupt},
		{catalogText(4, plainKept(5, 8, 8), 9, 0, nil), api.ErrCorrupt},
		{catalogText(4, plainKept(6, 5, 8), 9, 0, nil), api.ErrCorrupt},
		{catalogText(4, plainKept(5, 6, 4), 9, 0, nil), api.ErrCorrupt},
		{catalogText(4, plainKept(-1, 6, 8), 9, 0, nil), api.ErrCorrupt},
		{catalogText(4, plainKept(-1<<63, 6, 8), 9, 0, nil), api.ErrCorrupt},
		{catalogText(4, plainKept(5, 6, -1), 9, 0, nil), api.ErrCorrupt},
		{catalogText(4, nil, 1<<40, 0, nil), api.OK},
		{catalogText(4, nil, 1<<40+1, 0, nil), api.ErrCorrupt},
		{catalogText(4, nil, -1, 0, nil), api.ErrCorrupt},
		{catalogText(4, nil, -1<<63, 0, nil), api.ErrCorrupt},
		{catalogText(4, withRest(0), 1, 0, nil), api.OK},
		{catalogText(4, withRest(256), 1, 0, nil), api.OK},
		{catalogText(4, withRest(257), 1, 0, nil), api.OK},
		{catalogText(4, withRest(2000), 1, 0, nil), api.OK},
		{catalogText(4, withRest(2001), 1, 0, nil), api.ErrCorrupt},
		{catalogText(4, withRest(65535), 1, 0, nil), api.ErrCorrupt},
		{catalogText(4, nil, 1, 8192, zero[:32]), api.OK},
		{catalogText(4, nil, 1, 8193, zero[:33]), api.ErrCorrupt},
		{catalogText(4, nil, 1, 65535, make([]int, 256)), api.ErrCorrupt},
		{catalogText(4, many(15), 20, 0, nil), api.OK},
		{catalogText(4, many(16), 20, 0, nil), api.OK},
		{catalogText(4, many(17), 20, 0, nil), api.ErrCorrupt},
		{catalogText(4, many(255), 300, 0, nil), api.ErrCorrupt},
		{catalogText(0, paged(0), 1, 0, nil), api.ErrCorrupt},
		{catalogText(3, paged(3), 1, 0, nil), api.ErrCorrupt},
		{catalogText(3, nil, 1, 0, nil), api.ErrCorrupt},
		{catalogText(5, paged(5), 1, 0, nil), api.OK},
		{catalogText(64, paged(64), 1, 0, nil), api.OK},
		{catalogText(64, nil, 1, 0, nil), api.OK},
		{catalogText(65, nil, 1, 0, nil), api.ErrCorrupt},
		{catalogText(255, nil, 1, 0, nil), api.ErrCorrupt},
		{"", api.ErrCorrupt},
		{"\x04", api.ErrCorrupt},
		{"\x04\x00", api.ErrCorrupt},
	} {
		t.Log(i, x.want)
		holdOpen(t, planted(t, 60, x.text), x.want)
	}
}

// P20.1: slots of a rest, of pages, of the log, of the catalog: the last one that is there, and the one behind it.
func TestOpenSlots(t *testing.T) {
	for _, slots := range []int{8, 60, 300} {
		for _, k := range []int{0, slots - 1, slots, slots + 1, 65535} {
			want := api.OK
			if k >= slots {
				want = api.ErrCorrupt
			}
			for at := range 4 {
				p := kept{count: 1, rest: noughts(700), restSlots: []int{0, 1, 2}, pageSlots: []int{3, 4, 5, 6}}
				log := []int{1, 2}
				switch at {
				case 0:
					p.restSlots[1] = k
				case 1:
					p.pageSlots[0] = k
				case 2:
					p.pageSlots[3] = k
				case 3:
					log[1] = k
				}
				holdOpen(t, planted(t, slots, catalogText(4, []kept{p}, 1, 400, log)), want)
			}
		}
	}
	d := planted(t, 60, catalogText(4, nil, 1, 0, nil))
	for k, want := range map[byte]api.Errno{58: api.ErrCorrupt, 59: api.OK, 60: api.ErrCorrupt, 255: api.ErrCorrupt} {
		holdOpen(t, withByte(t, d, 3, k), want) // 58 is a slot of letters
	}
	holdOpen(t, withByte(t, d, 2, 1), api.ErrCorrupt)
}

// P20.1: slots may be named twice, also the catalog's own: they are used once.
func TestOpenTwice(t *testing.T) {
	text := catalogText(4, []kept{{count: 3, rest: "r", restSlots: []int{5}, pageSlots: []int{5, 5, 5, 59}}}, 3, 300, []int{5, 59})
	p := opened(t, planted(t, 60, text))
	p.free(t, 58)
	p.sync(t, "l", 3, api.OK)
}

// P20.1: catalogs that are cut short, each byte behind their end.
func TestOpenLengths(t *testing.T) {
	text := catalogText(4, plainKept(0, 9), 9, 300, []int{6, 7})
	for size := range len(text) {
		holdOpen(t, planted(t, 60, text[:size]), api.ErrCorrupt)
	}
	holdOpen(t, planted(t, 60, text), api.OK)
	for _, behind := range []int{1, 2, 3, 100, 300, 31*256 - len(text)} {
		holdOpen(t, planted(t, 60, text+noughts(behind)), api.ErrCorrupt)
		holdOpen(t, planted(t, 60, text+strings.Repeat("\x01", behind)), api.ErrCorrupt)
	}
	for at := len(text); at < 256; at++ {
		holdOpen(t, withByte(t, planted(t, 60, text), 64+59*256+at, 1), api.ErrCorrupt)
	}
}

// P20.1: catalogs whose sizes are those at which a piece ends.
func TestOpenPieces(t *testing.T) {
	for _, x := range []struct{ points, log, size int }{{12, 0, 228}, {12, 14 * 256, 256}, {12, 14*256 + 1, 258}, {13, 256 * 5, 256}, {13, 256 * 6, 258}} {
		var row []kept
		for n := range x.points {
			row = append(row, kept{count: n, pageSlots: []int{0, 1, 2, 3}})
		}
		text := catalogText(4, row, 100, x.log, make([]int, piecesIn(x.log)))
		if len(text) != x.size {
			t.Fatalf("%d points, a log of %d: %d bytes", x.points, x.log, len(text))
		}
		holdOpen(t, planted(t, 60, text), api.OK)
	}
}

// P20.1: each byte of the root and of the catalog is another one: the store is such as the model says, or none.
func TestOpenBytes(t *testing.T) {
	text := catalogText(4, plainKept(0, 9, 1<<39), 1<<39+77, 300, []int{6, 7})
	d := planted(t, 9, text)
	seen := map[api.Errno]int{}
	for at := range 64 + 9*256 {
		if at >= 64 && at < 64+8*256 {
			continue // they are no catalog
		}
		was := d.Image()[34*64+at]
		for _, b := range []byte{0, 1, 2, 3, 4, 8, 9, 16, 17, 64, 65, 128, 255, was ^ 1, was ^ 128, was - 1, was + 1} {
			x := withByte(t, d, at, b)
			_, want := modelOpen(x.Clone())
			holdOpen(t, x, want)
			seen[want]++
			if (at >= 4 && at < 64 || at >= 64+8*256+len(text)) && (want == api.OK) != (b == 0) {
				t.Fatalf("byte %d: %d", at, want)
			}
		}
	}
	for _, err := range []api.Errno{api.OK, api.ErrCorrupt} {
		if seen[err] < 500 {
			t.Errorf("error %d was seen %d times alone", err, seen[err])
		}
	}
}

// P20.1: roots that tell greater catalogs than they have room for, or none.
func TestOpenRoots(t *testing.T) {
	d := planted(t, 9, catalogText(4, nil, 0, 0, nil))
	slots := d.Image()[35*64:]
	for _, root := range []string{
		noughts(64), strings.Repeat("\xff", 64), "\x00\x00" + strings.Repeat("\x00\x08", 31), laid(2, 31*256) + strings.Repeat("\x00\x08", 31),
		laid(2, 31*256+1) + strings.Repeat("\x00\x08", 31), laid(2, 32*256) + strings.Repeat("\x00\x08", 31), laid(2, 65535) + strings.Repeat("\x00\x08", 31),
		padded("\x00\x0b\x00\x08", 64), padded("\x00\x0d\x00\x08", 64), padded("\x01\x0c\x00\x08\x00\x08", 64), padded("\x00\x0c\x00\x08\x00\x08", 64), strings.Repeat("x", 64),
	} {
		holdOpen(t, withOwn(t, d, root+slots), api.ErrCorrupt)
	}
	holdOpen(t, withOwn(t, d, padded("\x00\x0c\x00\x08", 64)+slots), api.OK)
}

// P20.1: Open asks for no least size of its own: a store of one slot is there, but nothing has room on it.
func TestOpenSmall(t *testing.T) {
	for _, x := range []struct{ sectors, slots int }{{42, 1}, {43, 2}, {46, 2}, {47, 3}, {66, 7}} {
		d := blankDisk(t, x.sectors)
		w, err := wal.Format(d)
		hold(t, err, api.OK)
		hold(t, w.Commit(nil), api.OK)
		holdOpen(t, d, api.ErrCorrupt)
		text := padded("\x00\x0c\x00\x00", 64) + padded("\x08\x00"+noughts(7)+"\x05\x00\x00", 256)
		d = withOwn(t, d, padded(text, 64*(x.sectors-34)))
		holdOpen(t, d, api.OK)
		p := opened(t, d)
		p.free(t, x.slots-1)
		if p.s.Pages() != 8 || p.s.End() != 5 {
			t.Errorf("%d sectors: Pages %d, End %d", x.sectors, p.s.Pages(), p.s.End())
		}
		want := api.OK
		if x.slots == 1 {
			want = api.ErrStoreFull
		}
		p.sync(t, "", 6, want)
	}
}

// P20.1: the log's own errors, and disks on which no store is.
func TestOpenNone(t *testing.T) {
	for _, n := range []int{1, 41, 4035, 4096} {
		holdNone(t, blankDisk(t, n), api.ErrWalForm, Open)
	}
	for _, n := range []int{42, 67, 100, 4034} {
		d := blankDisk(t, n)
		holdNone(t, d, api.ErrWalForm, Open)
		_, err := wal.Format(d)
		hold(t, err, api.OK)
		holdOpen(t, d, api.ErrCorrupt) // a log, but no store
		hold(t, d.Crash(api.Crash{}), api.OK)
		holdNone(t, d, api.ErrDead, Open)
	}
	// A head is right, but its room's bytes are others.
	p := formatted(t, 100, 4)
	p.sync(t, "log", 1, api.OK)
	image := []byte(p.d.Image())
	for n := 2; n < 34; n++ {
		image[64*n]++
	}
	d, err := disk.Open(string(image))
	hold(t, err, api.OK)
	holdOpen(t, d, api.ErrCorrupt)
}

// P20.1: the power goes in a step of an Open: it answers ErrDead, and what it writes is the log's alone.
func TestOpenArmed(t *testing.T) {
	p := formatted(t, 67, 4)
	p.sync(t, "log", 1, api.OK)
	for step := 1; step <= 4; step++ {
		d := p.d.Clone()
		hold(t, d.Arm(step, api.Crash{}), api.OK)
		want := api.ErrDead
		if step > 2 {
			want = api.OK // it writes one sector, and flushes
		}
		s, err := Open(d)
		if err != want || (s == nil) != (want != api.OK) || d.Dead() != (want != api.OK) {
			t.Errorf("step %d: %v, %d", step, s, err)
		}
	}
}
