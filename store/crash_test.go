package store

import (
	"reflect"
	"strings"
	"testing"

	"zoetrope/api"
	"zoetrope/disk"
)

// crashes are falls of few loose writes: each subset of them kept, each one torn or none, at some bytes.
func crashes(writes int, bytes ...int) []api.Crash {
	var l []api.Crash
	for keep := range 1 << writes {
		l = append(l, api.Crash{Keep: string([]byte{byte(keep)}), Torn: -1})
		for torn := range writes {
			for _, b := range bytes {
				l = append(l, api.Crash{Keep: string([]byte{byte(keep)}), Torn: torn, Bytes: b})
			}
		}
	}
	return l
}

// someCrashes are few of them: nothing kept, all, the first ones, the last ones, one torn.
var someCrashes = []api.Crash{{Torn: -1}, {Keep: "\xff", Torn: -1}, {Keep: "\x03", Torn: 2, Bytes: 31}, {Keep: "\x0c", Torn: 0, Bytes: 63}, {Keep: "\x0e", Torn: 0, Bytes: 7}}

// told is all that a store tells.
type told struct {
	pages, end, free int
	log              string
	points           []api.Point
}

func tell(t *testing.T, s *Store) told {
	t.Helper()
	x := told{pages: s.Pages(), end: s.End(), free: s.Free(), log: s.Log()}
	for _, n := range s.Points() {
		p, err := s.Load(n)
		hold(t, err, api.OK)
		x.points = append(x.points, p)
	}
	return x
}

// call is one of those that keep something, as a store and its model make it.
type call struct {
	name  string
	store func(*Store) api.Errno
	model func(*model) api.Errno
}

func saving(p api.Point) call {
	return call{"Save", func(s *Store) api.Errno { return s.Save(p) }, func(o *model) api.Errno { return o.save(p) }}
}

func syncing(log string, end int) call {
	return call{"Sync", func(s *Store) api.Errno { return s.Sync(log, end) }, func(o *model) api.Errno { return o.sync(log, end) }}
}

func pruning(count int) call {
	return call{"Prune", func(s *Store) api.Errno { return s.Prune(count) }, func(o *model) api.Errno { return o.prune(count) }}
}

// history is a store's disk, and a call that is made on it.
type history struct {
	d    *disk.Disk
	call call
}

func histories(t *testing.T) []history {
	t.Helper()
	p := formatted(t, withSlots(20), 4)
	row := []history{
		{p.d.Clone(), saving(pointOf(0, 3, "rest", "log", "abcd"))},
		{p.d.Clone(), syncing("log", 7)},
	}
	p.save(t, pointOf(0, 3, "rest", "log", "abcd"), api.OK)
	row = append(row, history{p.d.Clone(), saving(pointOf(2, 3, "", "log", "abcd"))})
	p.save(t, pointOf(2, 5, "r", bytesOf(300, 2), "abxd"), api.OK)
	other := bytesOf(256, 2) + "!" + bytesOf(20, 3)
	return append(row,
		history{p.d.Clone(), saving(pointOf(4, 5, "", other, "aaxd"))},
		history{p.d.Clone(), syncing(other, 1<<40)},
		history{p.d.Clone(), syncing("", 5)},
		history{p.d.Clone(), pruning(2)},
	)
}

// states are what is told ahead of a history's call and behind it, and how many steps it has.
func (h history) states(t *testing.T) (before, after told, steps int) {
	t.Helper()
	p := opened(t, h.d)
	before = tell(t, p.s)
	was := p.d.Steps()
	hold(t, h.call.store(p.s), api.OK)
	return before, tell(t, p.s), p.d.Steps() - was
}

// goneIn makes a history's call with the power going in a step, held against the model; it answers the disk, revived, and whether the call was answered OK.
func (h history) goneIn(t *testing.T, step int, c api.Crash) (*disk.Disk, bool) {
	t.Helper()
	p := opened(t, h.d)
	for _, d := range []*disk.Disk{p.d, p.o.d} {
		hold(t, d.Arm(step, c), api.OK)
	}
	was := tell(t, p.s)
	err := h.call.store(p.s)
	hold(t, h.call.model(p.o), err)
	p.o.hold(t, p.s, p.d)
	isDone := err == api.OK
	if !isDone && err != api.ErrDead || p.s.Dead() == isDone {
		t.Fatalf("%s, step %d: %d, Dead %v", h.call.name, step, err, p.s.Dead())
	}
	if !isDone {
		was.points = nil // they can't be loaded
		if got := (told{pages: p.s.Pages(), end: p.s.End(), free: p.s.Free(), log: p.s.Log()}); !reflect.DeepEqual(got, was) {
			t.Fatalf("%s, step %d: dead, and tells %v", h.call.name, step, got)
		}
	}
	p.d.Revive()
	return p.d, isDone
}

// P20.5: the power goes in each step of a Save, a Sync and a Prune, each subset of the loose writes kept, each one torn: Open tells all as ahead of the call, or as behind it, and as behind it if it was answered OK.
func TestCrash(t *testing.T) {
	t.Parallel()
	for _, h := range histories(t) {
		before, after, steps := h.states(t)
		made, not := 0, 0
		for step := 1; step <= steps+1; step++ {
			for _, c := range crashes(4, 33) {
				d, isDone := h.goneIn(t, step, c)
				got := tell(t, opened(t, d).s)
				isMade := reflect.DeepEqual(got, after)
				if !isMade && !reflect.DeepEqual(got, before) || isDone != (step > steps) {
					t.Fatalf("%s, step %d of %d, %+v: done %v, told %v", h.call.name, step, steps, c, isDone, got)
				}
				// The root's change is made from its head's Flush on: four steps ahead of the end.
				if isMade && step < steps-4 || !isMade && step > steps-2 {
					t.Fatalf("%s, step %d of %d, %+v: made %v", h.call.name, step, steps, c, isMade)
				}
				if isMade {
					made++
				} else {
					not++
				}
			}
		}
		if made == 0 || not == 0 {
			t.Errorf("%s: made %d times, not made %d times", h.call.name, made, not)
		}
	}
}

// P20.5: behind a crash a store goes on: the call is made again, or another one, and the power goes again.
func TestCrashAndOn(t *testing.T) {
	t.Parallel()
	for _, h := range histories(t) {
		_, _, steps := h.states(t)
		for step := 1; step <= steps+1; step++ {
			for _, c := range someCrashes {
				d, _ := h.goneIn(t, step, c)
				p := opened(t, d)
				p.sync(t, "on", 1<<40, api.OK)
				p.save(t, pointOf(9, 1<<40, "on", "on", "abcz"), api.OK)
			}
			d, _ := h.goneIn(t, step, someCrashes[step%len(someCrashes)])
			next := history{d, saving(pointOf(1<<40, 1<<40, "", "on", "aaxd"))}
			before, after, more := next.states(t)
			for again := step % 5; again <= more+1; again += 5 {
				if again == 0 {
					continue
				}
				d, isDone := next.goneIn(t, again, someCrashes[again%len(someCrashes)])
				got := tell(t, opened(t, d).s)
				if isMade := reflect.DeepEqual(got, after); !isMade && (isDone || !reflect.DeepEqual(got, before)) {
					t.Fatalf("%s, step %d, then %d: %v", h.call.name, step, again, got)
				}
			}
		}
	}
}

// P20.5: the power goes in each step of an Open behind a crash, again and again: what would have been found is found at last.
func TestOpenCrash(t *testing.T) {
	t.Parallel()
	for _, h := range histories(t) {
		_, _, steps := h.states(t)
		for step := 1; step <= steps+1; step++ {
			for _, c := range someCrashes {
				d, _ := h.goneIn(t, step, c)
				want := tell(t, opened(t, d).s)
				for openStep := 1; openStep <= 6; openStep++ {
					d := d.Clone()
					for _, c := range someCrashes {
						goneOpening(t, d, openStep, c)
					}
					if got := tell(t, opened(t, d).s); !reflect.DeepEqual(got, want) {
						t.Fatalf("%s, step %d, opened to %d: %v, wanted %v", h.call.name, step, openStep, got, want)
					}
				}
			}
		}
	}
}

// goneOpening opens a store with the power going in a step, as the model does.
func goneOpening(t *testing.T, d *disk.Disk, step int, c api.Crash) {
	t.Helper()
	hold(t, d.Arm(step, c), api.OK)
	want := d.Clone()
	s, err := Open(d)
	_, wantErr := modelOpen(want)
	hold(t, err, wantErr)
	holdDisk(t, d, want)
	if (s == nil) != (err != api.OK) || err != api.OK && err != api.ErrDead {
		t.Fatalf("%v, %d", s, err)
	}
	d.Revive()
}

const formatSteps = 3 + 12 + 6

// P20.5: the power goes in each step of a Format, over a disk of any bytes: behind it there is the store that it lays, or none; and it can be laid anew.
func TestFormatCrash(t *testing.T) {
	t.Parallel()
	for _, fill := range []string{"\x00", "x", "\xff"} {
		blank, err := disk.Open(strings.Repeat(fill, 67*64))
		hold(t, err, api.OK)
		for step := 1; step <= formatSteps+1; step++ {
			for _, c := range crashes(4, 1, 33, 63) {
				d := formatGone(t, blank, step, c)
				s, err := Open(d)
				if err == api.OK {
					if got, want := tell(t, s), (told{pages: 5, free: 7}); !reflect.DeepEqual(got, want) {
						t.Fatalf("step %d, %+v: %v", step, c, got)
					}
				} else if err != api.ErrWalForm && err != api.ErrCorrupt || step > formatSteps {
					t.Fatalf("step %d, %+v: %d", step, c, err)
				}
				s, err = Format(d, 6)
				hold(t, err, api.OK)
				if got, want := tell(t, s), (told{pages: 6, free: 7}); !reflect.DeepEqual(got, want) {
					t.Fatalf("step %d, %+v: formatted anew %v", step, c, got)
				}
			}
		}
	}
}

// formatGone lays a store on a clone of a disk with the power going in a step, as the model does.
func formatGone(t *testing.T, d *disk.Disk, step int, c api.Crash) *disk.Disk {
	t.Helper()
	d = d.Clone()
	hold(t, d.Arm(step, c), api.OK)
	want := d.Clone()
	s, err := Format(d, 5)
	_, wantErr := modelFormat(want, 5)
	hold(t, err, wantErr)
	holdDisk(t, d, want)
	if (s == nil) != (step <= formatSteps) || (err == api.ErrDead) != (step <= formatSteps) {
		t.Fatalf("step %d: %v, %d", step, s, err)
	}
	d.Revive()
	return d
}

// P20.5: likewise over a store that was there: what Open tells then is the model's, and it can be laid anew.
func TestFormatCrashOverStore(t *testing.T) {
	t.Parallel()
	for _, h := range histories(t) {
		for step := 1; step <= formatSteps+1; step++ {
			for _, c := range crashes(2, 1, 33) {
				d := formatGone(t, h.d, step, c)
				_, want := modelOpen(d.Clone())
				holdOpen(t, d, want)
				if step > formatSteps && want != api.OK {
					t.Fatalf("step %d, %+v: %d", step, c, want)
				}
				s, err := Format(d, 6)
				hold(t, err, api.OK)
				if got, want := tell(t, s), (told{pages: 6, free: 19}); !reflect.DeepEqual(got, want) {
					t.Fatalf("step %d, %+v: formatted anew %v", step, c, got)
				}
			}
		}
	}
}

// P20.5: the power goes in a call for which there is no room: it asks the disk for no write, and what was there is there.
func TestCrashRefused(t *testing.T) {
	p := formatted(t, withSlots(8), 4)
	p.save(t, pointOf(0, 3, "r", "", "abcd"), api.OK)
	p.free(t, 2)
	for _, d := range []*disk.Disk{p.d, p.o.d} {
		hold(t, d.Arm(1, api.Crash{}), api.OK)
	}
	hold(t, p.s.Sync(bytesOf(600, 1), 3), api.ErrStoreFull)
	hold(t, p.s.Save(pointOf(1, 3, "r", "l", "abcd")), api.ErrStoreFull)
	hold(t, p.s.Save(pointOf(0, 3, "", "", "abcd")), api.ErrStoreForm)
	hold(t, p.s.Prune(0), api.ErrStoreForm)
	hold(t, p.s.Prune(1), api.ErrStoreNone)
	p.o.hold(t, p.s, p.d)
	hold(t, p.s.Sync("l", 3), api.ErrDead)
	hold(t, p.o.sync("l", 3), api.ErrDead)
	p.holdDead(t)
}

// P20.5: how many slots a Save takes: one for each page that is another one, and beside them as many as its rest has pieces, whatever the memory's size; the catalog takes the old one's place.
func TestSlotsTaken(t *testing.T) {
	for _, pages := range []int{4, 9, 64} {
		p := formatted(t, withSlots(250), pages)
		fill := []byte(strings.Repeat("a", pages))
		p.save(t, pointOf(0, 0, "rest", "log", string(fill)), api.OK)
		for i := range 5 {
			for k := range i % 4 {
				fill[(7*i+k)%pages] = byte('b' + i)
			}
			free, pieces := p.s.Free(), len(p.s.root.slots)
			p.save(t, pointOf(i+1, i+1, "rest", "log", string(fill)), api.OK)
			if taken, want := free-p.s.Free(), i%4+1+len(p.s.root.slots)-pieces; taken != want {
				t.Errorf("%d pages, Save %d: %d slots, wanted %d", pages, i, taken, want)
			}
		}
	}
}
