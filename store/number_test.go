package store

import (
	"testing"

	"zoetrope/api"
	"zoetrope/crc"
	"zoetrope/disk"
)

const lastNumber = 1<<32 - 1

// numbered is a disk whose log has another number, behind a change without cells.
func numbered(t *testing.T, d *disk.Disk, number int) *disk.Disk {
	t.Helper()
	head := "ZW" + laid(4, number) + noughts(33) + "\xff\xff" + noughts(17) + laid(4, number)
	heads := []string{noughts(64), noughts(64)}
	heads[number%2] = crc.Seal(head)
	d, err := disk.Open(heads[0] + heads[1] + d.Image()[2*64:])
	hold(t, err, api.OK)
	return d
}

// P20.1 to P20.3: a log of changes that takes few more, or none: what has no room in it is refused, and what was laid stands in free slots; but for that all is as it was.
func TestLastNumbers(t *testing.T) {
	base := formatted(t, withSlots(30), 4)
	base.save(t, pointOf(1, 2, "rest", "log", "abcd"), api.OK)
	base.save(t, pointOf(3, 4, "rest", "log", "abcx"), api.OK)
	for _, x := range []struct {
		needs int // changes
		call  func(p pair, want api.Errno)
	}{
		{1 + 2 + 1 + 1 + 1, func(p pair, want api.Errno) { p.save(t, pointOf(5, 6, "rest", "other", "zbcz"), want) }},
		{1 + 1, func(p pair, want api.Errno) { p.save(t, pointOf(5, 6, "", "log", "abcx"), want) }},
		{2 + 1 + 1, func(p pair, want api.Errno) { p.sync(t, bytesOf(500, 2), 9, want) }},
		{1 + 1, func(p pair, want api.Errno) { p.sync(t, "", 9, want) }},
		{1 + 1, func(p pair, want api.Errno) { p.prune(t, 3, want) }},
	} {
		for left := range 10 {
			p := opened(t, numbered(t, base.d, lastNumber-left))
			steps := p.d.Steps()
			want := api.OK
			if left < x.needs {
				want = api.ErrStoreFull
			}
			x.call(p, want)
			if want != api.OK {
				p.holdAs(t, base)
				if p.d.Steps() != steps+12*left {
					t.Errorf("%d left: Steps %d", left, p.d.Steps()-steps)
				}
			}
		}
	}
}

// holdAs holds that a store tells what another one does, the slots that are free too.
func (p pair) holdAs(t *testing.T, q pair) {
	t.Helper()
	o := *q.o
	o.d, o.w = p.o.d, p.o.w
	pair{p.s, p.d, &o}.holdAll(t)
}

// P20.2: of a log of changes that takes none more the other errors are told ahead of it; a store that has not heard that the power is gone does not ask then.
func TestLastNumberOrder(t *testing.T) {
	base := formatted(t, withSlots(30), 4)
	base.save(t, pointOf(1, 2, "rest", "log", "abcd"), api.OK)
	base.save(t, pointOf(3, 4, "rest", "log", "abcx"), api.OK)
	d := numbered(t, base.d, lastNumber)
	p := opened(t, d)
	p.sync(t, "log", 3, api.ErrStoreForm)
	p.save(t, pointOf(3, 5, "", "", "abcd"), api.ErrStoreForm)
	p.prune(t, 1, api.ErrStoreForm)
	p.prune(t, 2, api.ErrStoreNone)
	for _, d := range []*disk.Disk{p.d, p.o.d} {
		hold(t, d.Crash(api.Crash{}), api.OK)
	}
	hold(t, p.s.Sync("log", 4), api.ErrStoreFull)
	hold(t, p.s.Prune(3), api.ErrStoreFull)
	if p.s.Dead() {
		t.Error("dead by calls that asked nothing of the disk")
	}
	_, err := p.s.Load(1)
	hold(t, err, api.ErrDead)
	_, err = p.o.load(1)
	hold(t, err, api.ErrDead)
	p.holdDead(t)

	// Open makes no change, so it goes on doing so.
	for range 3 {
		q := opened(t, d)
		q.holdAll(t)
		d = q.d
	}
}

// P20.1: a Format begins the numbers anew.
func TestLastNumberFormat(t *testing.T) {
	p := formatted(t, withSlots(30), 4)
	d := numbered(t, p.d, lastNumber)
	s, err := Format(d, 4)
	hold(t, err, api.OK)
	o, err := modelFormat(numbered(t, p.d, lastNumber), 4)
	hold(t, err, api.OK)
	q := pair{s, d, o}
	q.holdAll(t)
	q.sync(t, "log", 1, api.OK)
}
