package store

import (
	"math/rand"
	"reflect"
	"slices"
	"testing"

	"zoetrope/api"
	"zoetrope/disk"
	"zoetrope/wal"
)

func anyBytes(r *rand.Rand, count int) string {
	b := make([]byte, count)
	r.Read(b)
	return string(b)
}

func anyCrash(r *rand.Rand) api.Crash {
	return api.Crash{Keep: anyBytes(r, r.Intn(3)), Torn: r.Intn(7) - 2, Bytes: r.Intn(70) - 3}
}

// anySlots are mostly such as are there.
func anySlots(r *rand.Rand, count, slots int) []int {
	row := make([]int, count)
	for i := range row {
		row[i] = r.Intn(slots)
		if r.Intn(400) == 0 {
			row[i] = slots + r.Intn(3)
		}
	}
	return row
}

// anyCatalog is a catalog's text, mostly a right one.
func anyCatalog(r *rand.Rand, slots int) string {
	pages := 4 + r.Intn(3)
	if r.Intn(10) == 0 {
		pages = []int{2, 3, 64, 65}[r.Intn(4)]
	}
	var points []kept
	count := 0
	for range r.Intn(4) + r.Intn(2)*r.Intn(16) {
		size := []int{0, 10, 256, 257, 2000}[r.Intn(5)]
		if r.Intn(40) == 0 {
			size = 2001
		}
		points = append(points, kept{count: count, rest: noughts(size), restSlots: anySlots(r, piecesIn(size), slots), pageSlots: anySlots(r, pages, slots)})
		count += 1 + r.Intn(3)*r.Intn(1<<36)
		if r.Intn(40) == 0 {
			count--
		}
	}
	end := count + r.Intn(3)
	switch r.Intn(20) {
	case 0:
		end = 1<<40 + r.Intn(2)
	case 1:
		end -= 2
	}
	logSize := r.Intn(2) * r.Intn(1000)
	if r.Intn(20) == 0 {
		logSize = 8192 + r.Intn(2)
	}
	text := catalogText(pages, points, end, logSize, anySlots(r, piecesIn(logSize), slots))
	switch r.Intn(12) {
	case 0:
		return text + anyBytes(r, r.Intn(3))
	case 1:
		return text[:r.Intn(len(text))]
	case 2:
		at := r.Intn(len(text))
		return text[:at] + anyBytes(r, 1) + text[at+1:]
	}
	return text
}

// anyDisk is a disk of any bytes, mostly with a log and a store on it, or nearly.
func anyDisk(t *testing.T, r *rand.Rand) *disk.Disk {
	t.Helper()
	if r.Intn(8) == 0 {
		d, err := disk.Open(anyBytes(r, 64*(1+r.Intn(120))))
		hold(t, err, api.OK)
		return d
	}
	d := blankDisk(t, 42+r.Intn(4)+r.Intn(2)*r.Intn(200))
	w, err := wal.Format(d)
	hold(t, err, api.OK)
	hold(t, w.Commit(nil), api.OK)
	slots := (d.Sectors() - 35) / 4
	text := anyCatalog(r, slots)
	own := r.Perm(slots)
	if count := piecesIn(len(text)); count < len(own) {
		own = own[:count]
	}
	bytes := []byte(anyBytes(r, 64*(d.Sectors()-34)))
	root := laid(2, len(text)) + names(own)
	copy(bytes, root+noughts(max(0, 64-len(root))))
	for i, k := range own {
		if i < piecesIn(len(text)) {
			copy(bytes[64+256*k:], piece(text, i))
		}
	}
	if r.Intn(10) == 0 {
		bytes[r.Intn(64)] = byte(r.Intn(256))
	}
	return withOwn(t, d, string(bytes))
}

// holdBegun holds a store that was begun, or none, against the model's.
func holdBegun(t *testing.T, s *Store, err api.Errno, d *disk.Disk, o *model, wantErr api.Errno, want *disk.Disk) {
	t.Helper()
	hold(t, err, wantErr)
	holdDisk(t, d, want)
	if (s == nil) != (err != api.OK) {
		t.Fatalf("%v beside %d", s, err)
	}
	if s != nil {
		o.hold(t, s, d)
	}
}

// P20.1, R1: any bytes as a disk's image, its power there, gone or going.
func TestAnyImage(t *testing.T) {
	t.Parallel()
	r := rand.New(rand.NewSource(201))
	seen := map[api.Errno]int{}
	for range 5000 {
		d := anyDisk(t, r)
		switch r.Intn(8) {
		case 0:
			hold(t, d.Arm(1+r.Intn(20), anyCrash(r)), api.OK)
		case 1:
			hold(t, d.Crash(anyCrash(r)), api.OK)
		}
		want := d.Clone()
		var s *Store
		var o *model
		var err, wantErr api.Errno
		if r.Intn(6) == 0 {
			pages := 2 + r.Intn(64)
			s, err = Format(d, pages)
			o, wantErr = modelFormat(want, pages)
		} else {
			s, err = Open(d)
			o, wantErr = modelOpen(want)
		}
		holdBegun(t, s, err, d, o, wantErr, want)
		if s != nil {
			o.holdLoads(t, s)
			for range 3 {
				anyCall(t, r, &pair{s, d, o})
			}
		}
		seen[err]++
	}
	for _, err := range []api.Errno{api.OK, api.ErrDead, api.ErrWalForm, api.ErrStoreForm, api.ErrCorrupt} {
		if seen[err] < 60 {
			t.Errorf("error %d was seen %d times alone", err, seen[err])
		}
	}
}

// anyPoint is mostly one that may be saved: it has the last point's pages, or some of them.
func anyPoint(r *rand.Rand, o *model) api.Point {
	p := api.Point{Rest: anyBytes(r, []int{0, 10, 256, 257, 600}[r.Intn(5)]), Log: anyLog(r, o.log)}
	for i := range o.pages {
		n := len(o.points)
		if n > 0 && r.Intn(4) > 0 {
			p.Pages = append(p.Pages, o.points[n-1].pages[i])
		} else {
			p.Pages = append(p.Pages, page(anyBytes(r, 1)))
		}
	}
	for _, k := range o.points {
		p.Count = k.count + 1
	}
	p.Count = min(p.Count+r.Intn(3), 1<<40)
	p.End = max(p.Count, o.end) + r.Intn(2)
	switch r.Intn(60) {
	case 0:
		p.Count = r.Int() - r.Int()
	case 1:
		p.End = r.Int() - r.Int()
	case 2:
		p.Rest = anyBytes(r, 1990+r.Intn(20))
	case 3:
		p.Log = anyBytes(r, 8180+r.Intn(20))
	case 4:
		p.Pages = p.Pages[:r.Intn(len(p.Pages))]
	case 5:
		p.Pages = append(p.Pages, p.Pages[0])
	case 6:
		p.Pages[r.Intn(len(p.Pages))] = anyBytes(r, 250+r.Intn(10))
	case 7:
		p.Count, p.End = 1<<40-r.Intn(2), 1<<40
	}
	return p
}

// anyLog is mostly another one of a log: longer, shorter, or with another byte.
func anyLog(r *rand.Rand, log string) string {
	switch r.Intn(6) {
	case 0:
		return anyBytes(r, r.Intn(600))
	case 1:
		return log[:r.Intn(len(log)+1)]
	case 2:
		if log != "" {
			at := r.Intn(len(log))
			return log[:at] + "!" + log[at+1:]
		}
	case 3:
		return log
	}
	return log + anyBytes(r, r.Intn(40))
}

// begin formats or opens the disks of a pair anew; a pair whose store can't be begun keeps that which it has.
func (p *pair) begin(t *testing.T, pages int) {
	t.Helper()
	var s *Store
	var o *model
	var err, wantErr api.Errno
	if pages > 0 {
		s, err = Format(p.d, pages)
		o, wantErr = modelFormat(p.o.d, pages)
	} else {
		s, err = Open(p.d)
		o, wantErr = modelOpen(p.o.d)
	}
	holdBegun(t, s, err, p.d, o, wantErr, p.o.d)
	if s != nil {
		p.s, p.o = s, o
	}
}

func anyCount(r *rand.Rand, o *model) int {
	counts := append(o.counts(), 0, r.Intn(10))
	n := counts[r.Intn(len(counts))]
	switch r.Intn(20) {
	case 0:
		return n - 1
	case 1:
		return r.Int() - r.Int()
	}
	return n
}

// anyCall makes any call on a store, and on the model.
func anyCall(t *testing.T, r *rand.Rand, p *pair) api.Errno {
	t.Helper()
	switch r.Intn(20) {
	case 0, 1, 2, 3, 4, 5:
		log, end := anyLog(r, p.o.log), p.o.end+r.Intn(3)-r.Intn(8)/7
		err := p.s.Sync(log, end)
		hold(t, err, p.o.sync(log, end))
		return err
	case 6, 7, 8:
		n := anyCount(r, p.o)
		err := p.s.Prune(n)
		hold(t, err, p.o.prune(n))
		return err
	case 9, 10:
		n := anyCount(r, p.o)
		got, err := p.s.Load(n)
		want, wantErr := p.o.load(n)
		hold(t, err, wantErr)
		if !samePoint(got, want) {
			t.Fatalf("Load(%d): %v, wanted %v", n, got, want)
		}
		return err
	}
	x := anyPoint(r, p.o)
	was := slices.Clone(x.Pages)
	err := p.s.Save(x)
	hold(t, err, p.o.save(x))
	if !slices.Equal(x.Pages, was) {
		t.Fatal("Save changed pages")
	}
	return err
}

// P20.1 to P20.4, R5: any row of calls, on stores side by side, whose power goes and comes, each held against a model of its own.
func TestAnyCalls(t *testing.T) {
	t.Parallel()
	r := rand.New(rand.NewSource(202))
	seen := map[api.Errno]int{}
	for range 60 {
		var row []*pair
		for range 3 {
			p := formatted(t, 67+r.Intn(8)+r.Intn(2)*r.Intn(300), 4+r.Intn(4))
			row = append(row, &p)
		}
		for range 100 {
			p := row[r.Intn(len(row))]
			switch r.Intn(25) {
			case 0:
				step, c := r.Intn(100), anyCrash(r)
				hold(t, p.d.Arm(step, c), p.o.d.Arm(step, c))
			case 1:
				c := anyCrash(r)
				hold(t, p.d.Crash(c), p.o.d.Crash(c))
			case 2, 3:
				p.d.Revive()
				p.o.d.Revive()
			case 4, 5:
				p.begin(t, 0)
			case 6:
				p.begin(t, r.Intn(2)*(3+r.Intn(5)))
			default:
				seen[anyCall(t, r, p)]++
			}
			for _, p := range row {
				p.o.hold(t, p.s, p.d)
			}
		}
		for _, p := range row {
			p.o.holdLoads(t, p.s)
		}
	}
	for _, err := range []api.Errno{api.OK, api.ErrDead, api.ErrStoreForm, api.ErrStoreFull, api.ErrStoreNone} {
		if seen[err] < 100 {
			t.Errorf("error %d was seen %d times alone", err, seen[err])
		}
	}
}

// life is what a store has to tell, as the calls that were answered OK made it.
type life struct {
	log    string
	end    int
	points []api.Point
}

func (x life) with(p api.Point) life {
	x.points = append(slices.Clone(x.points), p)
	return x.synced(p.Log, p.End)
}

// synced is a life with another log, which is told of each point.
func (x life) synced(log string, end int) life {
	x.log, x.end = log, end
	x.points = slices.Clone(x.points)
	for i := range x.points {
		x.points[i].Log, x.points[i].End = log, end
	}
	return x
}

func (x life) without(i int) life {
	x.points = slices.Delete(slices.Clone(x.points), i, i+1)
	return x
}

func (x life) is(y told) bool {
	return x.log == y.log && x.end == y.end && reflect.DeepEqual(append([]api.Point{}, x.points...), append([]api.Point{}, y.points...))
}

// P20.5: a store's whole life, the power going again and again, also while it is opened: told by what was handed in alone.
func TestAnyLife(t *testing.T) {
	t.Parallel()
	r := rand.New(rand.NewSource(205))
	for range 30 {
		d := blankDisk(t, withSlots(20+r.Intn(60)))
		s, err := Format(d, 4)
		hold(t, err, api.OK)
		now, kepts := life{}, 0
		for range 80 {
			next, do := anyNext(r, now)
			if r.Intn(3) == 0 {
				hold(t, d.Arm(1+r.Intn(120), anyCrash(r)), api.OK)
			}
			switch err := do(s); err {
			case api.OK:
				now = next
				kepts++
			case api.ErrDead:
				s = openedAtLast(t, r, d)
				if next.is(tell(t, s)) {
					now = next
				}
			default:
				hold(t, err, api.ErrStoreFull)
			}
			d.Revive() // it goes no more
			if r.Intn(8) == 0 {
				hold(t, d.Crash(anyCrash(r)), api.OK)
				s = openedAtLast(t, r, d)
			}
			if got := tell(t, s); !now.is(got) {
				t.Fatalf("%v, wanted %v", got, now)
			}
		}
		if kepts < 10 {
			t.Errorf("%d calls alone were answered OK", kepts)
		}
	}
}

// anyNext is a call that may be made, and the life behind it.
func anyNext(r *rand.Rand, now life) (life, func(*Store) api.Errno) {
	log, end := anyLog(r, now.log), now.end+r.Intn(5)
	count := len(now.points)
	if n := r.Intn(3); n == 0 || n == 1 && count < 2 {
		return now.synced(log, end), func(s *Store) api.Errno { return s.Sync(log, end) }
	} else if n == 1 {
		i := 1 + r.Intn(count-1)
		return now.without(i), func(s *Store) api.Errno { return s.Prune(now.points[i].Count) }
	}
	p := api.Point{Rest: anyBytes(r, r.Intn(600)), Log: log}
	for range 4 {
		p.Pages = append(p.Pages, page(string([]byte{byte(r.Intn(3))})))
	}
	if count > 0 {
		p.Count = now.points[count-1].Count + 1 + r.Intn(3)
	}
	p.End = max(end, p.Count)
	return now.with(p), func(s *Store) api.Errno { return s.Save(p) }
}

// openedAtLast is a store that was opened, behind some times in which the power went.
func openedAtLast(t *testing.T, r *rand.Rand, d *disk.Disk) *Store {
	t.Helper()
	for {
		d.Revive()
		if r.Intn(2) == 0 {
			hold(t, d.Arm(1+r.Intn(6), anyCrash(r)), api.OK)
		}
		s, err := Open(d)
		if err == api.OK {
			return s
		}
		hold(t, err, api.ErrDead)
	}
}
