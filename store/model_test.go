package store

import (
	"slices"
	"strings"
	"testing"

	"zoetrope/api"
	"zoetrope/disk"
	"zoetrope/wal"
)

// model is a store told in the plainest way: what is kept it holds as it was handed in, beside the slots that it has reckoned for it, and it makes the chapter's changes on a log of its own, one by one.
type model struct {
	d        *disk.Disk
	w        *wal.Log
	pages    int
	points   []kept
	log      string
	logSlots []int
	end      int
	own      []int // the catalog's
}

type kept struct {
	count     int
	rest      string
	pages     []string
	restSlots []int
	pageSlots []int
}

func modelFormat(d *disk.Disk, pages int) (*model, api.Errno) {
	if pages < 4 || pages > 64 {
		return nil, 200
	}
	if d.Sectors() >= 42 && d.Sectors() < 67 {
		c := d.Clone()
		if _, err := wal.Format(c); err == 0 {
			return nil, 200
		}
	}
	w, err := wal.Format(d)
	if err != 0 {
		return nil, err
	}
	o := &model{d: d, w: w, pages: pages}
	if err := o.keep(nil, "", 0); err != 0 {
		return nil, err
	}
	return o, 0
}

func modelOpen(d *disk.Disk) (*model, api.Errno) {
	w, err := wal.Open(d)
	if err != 0 {
		return nil, err
	}
	o := &model{d: d, w: w}
	if !o.parse() {
		return nil, 232
	}
	return o, 0
}

func (o *model) slots() int { return (o.d.Sectors() - 35) / 4 }

// sector is one that is there for sure, of a log whose disk has its power.
func (o *model) sector(n int) string {
	s, err := o.w.Read(n)
	if err != 0 {
		panic(err)
	}
	return s
}

func (o *model) slot(k int) string {
	return o.sector(1+4*k) + o.sector(2+4*k) + o.sector(3+4*k) + o.sector(4+4*k)
}

func (o *model) joined(slots []int) string {
	s := ""
	for _, k := range slots {
		s += o.slot(k)
	}
	return s
}

// taker takes numbers off a text; ok is false once there is something that may not be.
type taker struct {
	s  string
	ok bool
}

func (x *taker) take(size, least, most int) int {
	if len(x.s) < size {
		x.ok = false
	}
	if !x.ok {
		return 0
	}
	n := uint64(0)
	for i := range size {
		n = n*256 + uint64(x.s[i])
	}
	x.s = x.s[size:]
	if n < uint64(least) || n > uint64(most) {
		x.ok = false
		return 0
	}
	return int(n)
}

func (x *taker) takeSlots(count, slots int) []int {
	var row []int
	for range count {
		row = append(row, x.take(2, 0, slots-1))
	}
	return row
}

func piecesIn(size int) int {
	n := size / 256
	if size%256 > 0 {
		n++
	}
	return n
}

func blank(s string) bool { return s == strings.Repeat("\x00", len(s)) }

// parse takes all that is kept off the sectors.
func (o *model) parse() bool {
	root := &taker{o.sector(0), true}
	size := root.take(2, 0, 31*256)
	o.own = root.takeSlots(piecesIn(size), o.slots())
	if !root.ok || !blank(root.s) {
		return false
	}
	all := o.joined(o.own)
	x := &taker{all[:size], true}
	o.pages = x.take(1, 4, 64)
	least := 0
	for range x.take(1, 0, 16) {
		k := kept{count: x.take(8, least, 1<<40)}
		least = k.count + 1
		rest := x.take(2, 0, 2000)
		k.restSlots = x.takeSlots(piecesIn(rest), o.slots())
		k.pageSlots = x.takeSlots(o.pages, o.slots())
		if !x.ok {
			return false
		}
		k.rest = o.joined(k.restSlots)[:rest]
		for _, n := range k.pageSlots {
			k.pages = append(k.pages, o.slot(n))
		}
		o.points = append(o.points, k)
	}
	o.end = x.take(8, max(least-1, 0), 1<<40)
	logSize := x.take(2, 0, 8192)
	o.logSlots = x.takeSlots(piecesIn(logSize), o.slots())
	if !x.ok || x.s != "" || !blank(all[size:]) {
		return false
	}
	o.log = o.joined(o.logSlots)[:logSize]
	return true
}

// free are the slots that nothing names, rising.
func (o *model) free() []int {
	named := slices.Concat(o.own, o.logSlots)
	for _, k := range o.points {
		named = slices.Concat(named, k.restSlots, k.pageSlots)
	}
	var row []int
	for n := range o.slots() {
		if !slices.Contains(named, n) {
			row = append(row, n)
		}
	}
	return row
}

// piece is the i-th one of a text.
func piece(s string, i int) string {
	s = s[256*i:]
	if len(s) > 256 {
		return s[:256]
	}
	return s + strings.Repeat("\x00", 256-len(s))
}

// laid are numbers as bytes: of each its size, and it.
func laid(pairs ...int) string {
	var b []byte
	for i := 0; i < len(pairs); i += 2 {
		for k := pairs[i] - 1; k >= 0; k-- {
			b = append(b, byte(pairs[i+1]>>(8*k)))
		}
	}
	return string(b)
}

// names are slots as bytes.
func names(slots []int) string {
	s := ""
	for _, k := range slots {
		s += laid(2, k)
	}
	return s
}

func catalogText(pages int, points []kept, end, logSize int, logSlots []int) string {
	s := laid(1, pages, 1, len(points))
	for _, k := range points {
		s += laid(8, k.count, 2, len(k.rest)) + names(k.restSlots) + names(k.pageSlots)
	}
	return s + laid(8, end, 2, logSize) + names(logSlots)
}

// keep keeps a catalog; of its points the one without slots is new.
func (o *model) keep(points []kept, log string, end int) api.Errno {
	free := o.free()
	var fresh []string
	slotFor := func(s string) int {
		fresh = append(fresh, s)
		if len(fresh) > len(free) {
			return 0
		}
		return free[len(fresh)-1]
	}
	for i, k := range points {
		if k.pageSlots == nil {
			points[i] = o.placed(k, slotFor)
		}
	}
	var logSlots []int
	for i := range piecesIn(len(log)) {
		if i < len(o.logSlots) && piece(o.log, i) == piece(log, i) {
			logSlots = append(logSlots, o.logSlots[i])
		} else {
			logSlots = append(logSlots, slotFor(piece(log, i)))
		}
	}
	text := catalogText(o.pages, points, end, len(log), logSlots)
	var own []int
	for i := range piecesIn(len(text)) {
		own = append(own, slotFor(piece(text, i)))
	}
	if len(fresh) > len(free) {
		return 201
	}
	for i, s := range fresh {
		n := 1 + 4*free[i]
		if err := o.commit([]api.Cell{{N: n, S: s[:64]}, {N: n + 1, S: s[64:128]}, {N: n + 2, S: s[128:192]}, {N: n + 3, S: s[192:]}}); err != 0 {
			return err
		}
	}
	root := laid(2, len(text)) + names(own)
	if err := o.commit([]api.Cell{{N: 0, S: root + strings.Repeat("\x00", 64-len(root))}}); err != 0 {
		return err
	}
	o.points, o.log, o.logSlots, o.end, o.own = points, log, logSlots, end, own
	return 0
}

func (o *model) placed(k kept, slotFor func(string) int) kept {
	for i := range piecesIn(len(k.rest)) {
		k.restSlots = append(k.restSlots, slotFor(piece(k.rest, i)))
	}
	for i, s := range k.pages {
		if n := len(o.points); n > 0 && o.points[n-1].pages[i] == s {
			k.pageSlots = append(k.pageSlots, o.points[n-1].pageSlots[i])
		} else {
			k.pageSlots = append(k.pageSlots, slotFor(s))
		}
	}
	return k
}

func (o *model) commit(cells []api.Cell) api.Errno {
	err := o.w.Commit(cells)
	if err == 191 {
		return 201
	}
	return err
}

func (o *model) counts() []int {
	var row []int
	for _, k := range o.points {
		row = append(row, k.count)
	}
	return row
}

func (o *model) save(p api.Point) api.Errno {
	bad := p.Count < 0 || p.Count > 1<<40 || len(p.Pages) != o.pages || len(p.Rest) > 2000 || len(p.Log) > 8192
	bad = bad || p.End < p.Count || p.End < o.end || p.End > 1<<40
	for _, k := range o.points {
		bad = bad || p.Count <= k.count
	}
	for _, s := range p.Pages {
		bad = bad || len(s) != 256
	}
	switch {
	case bad:
		return 200
	case o.w.Dead():
		return 2
	case len(o.points) == 16:
		return 201
	}
	if len(o.points) > 0 { // its pages are asked for
		if _, err := o.w.Read(1); err != 0 {
			return err
		}
	}
	next := append(slices.Clone(o.points), kept{count: p.Count, rest: p.Rest, pages: slices.Clone(p.Pages)})
	return o.keep(next, p.Log, p.End)
}

func (o *model) sync(log string, end int) api.Errno {
	switch {
	case len(log) > 8192 || end < o.end || end > 1<<40:
		return 200
	case o.w.Dead():
		return 2
	}
	return o.keep(slices.Clone(o.points), log, end)
}

func (o *model) load(count int) (api.Point, api.Errno) {
	for _, k := range o.points {
		if k.count == count {
			if _, err := o.w.Read(1); err != 0 {
				return api.Point{}, err
			}
			return api.Point{Count: count, Rest: k.rest, Pages: k.pages, Log: o.log, End: o.end}, 0
		}
	}
	return api.Point{}, 202
}

func (o *model) prune(count int) api.Errno {
	i := slices.Index(o.counts(), count)
	switch {
	case i < 0:
		return 202
	case i == 0:
		return 200
	case o.w.Dead():
		return 2
	}
	return o.keep(slices.Concat(o.points[:i], o.points[i+1:]), o.log, o.end)
}

func samePoint(a, b api.Point) bool {
	return a.Count == b.Count && a.Rest == b.Rest && a.Log == b.Log && a.End == b.End && slices.Equal(a.Pages, b.Pages)
}

// hold holds all that a store tells without its disk, and that disk, against the model.
func (o *model) hold(t *testing.T, s *Store, d *disk.Disk) {
	t.Helper()
	holdDisk(t, d, o.d)
	if s.Pages() != o.pages || s.End() != o.end || s.Free() != len(o.free()) || s.Dead() != o.w.Dead() {
		t.Fatalf("Pages %d, End %d, Free %d, Dead %v, wanted %d, %d, %d, %v", s.Pages(), s.End(), s.Free(), s.Dead(), o.pages, o.end, len(o.free()), o.w.Dead())
	}
	if !slices.Equal(s.Points(), o.counts()) || s.Log() != o.log {
		t.Fatalf("Points %v, Log %q, wanted %v, %q", s.Points(), s.Log(), o.counts(), o.log)
	}
}

// holdLoads holds what is loaded of each point, and of counts beside them.
func (o *model) holdLoads(t *testing.T, s *Store) {
	t.Helper()
	for _, n := range append(o.counts(), -1, 0, 1, 1<<40) {
		for by := -1; by <= 1; by++ {
			got, err := s.Load(n + by)
			if want, wantErr := o.load(n + by); !samePoint(got, want) || err != wantErr {
				t.Fatalf("Load(%d): %v, %d, wanted %v, %d", n+by, got, err, want, wantErr)
			}
		}
	}
}

func holdDisk(t *testing.T, d, want *disk.Disk) {
	t.Helper()
	got, wanted := d.Image(), want.Image()
	for n := range len(wanted) / 64 {
		if got[64*n:64*n+64] != wanted[64*n:64*n+64] {
			t.Fatalf("sector %d: %q, wanted %q", n, got[64*n:64*n+64], wanted[64*n:64*n+64])
		}
	}
	if d.Steps() != want.Steps() || d.Dead() != want.Dead() {
		t.Fatalf("Steps %d, Dead %v, wanted %d, %v", d.Steps(), d.Dead(), want.Steps(), want.Dead())
	}
}

func hold(t *testing.T, err, want api.Errno) {
	t.Helper()
	if err != want {
		t.Fatalf("error %d, wanted %d", err, want)
	}
}

// pair is a store, its disk, and the model that they are held against.
type pair struct {
	s *Store
	d *disk.Disk
	o *model
}

func blankDisk(t *testing.T, sectors int) *disk.Disk {
	t.Helper()
	d, err := disk.New(sectors)
	hold(t, err, api.OK)
	return d
}

// withSlots is how many sectors a disk with so many slots has.
func withSlots(slots int) int { return 34 + 1 + 4*slots }

func formatted(t *testing.T, sectors, pages int) pair {
	t.Helper()
	d := blankDisk(t, sectors)
	want := d.Clone()
	s, err := Format(d, pages)
	hold(t, err, api.OK)
	o, err := modelFormat(want, pages)
	hold(t, err, api.OK)
	o.hold(t, s, d)
	return pair{s, d, o}
}

// opened is a store opened on a clone of a disk, held against the model's.
func opened(t *testing.T, d *disk.Disk) pair {
	t.Helper()
	d = d.Clone()
	want := d.Clone()
	s, err := Open(d)
	hold(t, err, api.OK)
	o, err := modelOpen(want)
	hold(t, err, api.OK)
	o.hold(t, s, d)
	return pair{s, d, o}
}

// holdAll holds a store, and one that is opened on its disk, against the model.
func (p pair) holdAll(t *testing.T) {
	t.Helper()
	p.o.hold(t, p.s, p.d)
	p.o.holdLoads(t, p.s)
	q := opened(t, p.d)
	q.o.holdLoads(t, q.s)
	if !slices.Equal(q.s.Points(), p.s.Points()) || q.s.Log() != p.s.Log() || q.s.End() != p.s.End() || q.s.Free() != p.s.Free() || q.s.Pages() != p.s.Pages() {
		t.Fatalf("opened anew: Points %v, Log %q, End %d, Free %d", q.s.Points(), q.s.Log(), q.s.End(), q.s.Free())
	}
}

// save, sync and prune hold the call against the model, and what is told behind it.
func (p pair) save(t *testing.T, x api.Point, want api.Errno) {
	t.Helper()
	was := slices.Clone(x.Pages)
	hold(t, p.s.Save(x), want)
	hold(t, p.o.save(x), want)
	if !slices.Equal(x.Pages, was) {
		t.Fatal("Save changed pages")
	}
	p.holdAll(t)
}

func (p pair) sync(t *testing.T, log string, end int, want api.Errno) {
	t.Helper()
	hold(t, p.s.Sync(log, end), want)
	hold(t, p.o.sync(log, end), want)
	p.holdAll(t)
}

func (p pair) prune(t *testing.T, count int, want api.Errno) {
	t.Helper()
	hold(t, p.s.Prune(count), want)
	hold(t, p.o.prune(count), want)
	p.holdAll(t)
}

// free holds how many slots are.
func (p pair) free(t *testing.T, want int) {
	t.Helper()
	if p.s.Free() != want {
		t.Fatalf("Free %d, wanted %d", p.s.Free(), want)
	}
}

// pointOf has pages that are each full of a byte.
func pointOf(count, end int, rest, log, fill string) api.Point {
	p := api.Point{Count: count, Rest: rest, Log: log, End: end}
	for i := range len(fill) {
		p.Pages = append(p.Pages, strings.Repeat(fill[i:i+1], 256))
	}
	return p
}

// bytesOf are so many, each one another than those beside it.
func bytesOf(count, from int) string {
	b := make([]byte, count)
	for i := range b {
		b[i] = byte(i*7 + i/256 + from)
	}
	return string(b)
}
