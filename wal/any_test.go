package wal

import (
	"math/rand"
	"slices"
	"sort"
	"strings"
	"testing"

	"zoetrope/api"
	"zoetrope/disk"
)

func anySector(r *rand.Rand) string {
	b := make([]byte, 64)
	if r.Intn(3) == 0 {
		r.Read(b)
		return string(b)
	}
	return fill(string([]byte{byte(r.Intn(256))}))
}

// anyCells are mostly such as may be.
func anyCells(r *rand.Rand, own int) []api.Cell {
	count := r.Intn(5)
	switch r.Intn(12) {
	case 0:
		count = 16
	case 1:
		count = r.Intn(40)
	}
	row := make([]api.Cell, count)
	for i := range row {
		row[i] = api.Cell{N: r.Intn(own), S: anySector(r)}
	}
	if r.Intn(12) > 0 {
		sort.Slice(row, func(i, k int) bool { return row[i].N < row[k].N })
	}
	if r.Intn(12) > 0 {
		row = slices.CompactFunc(row, func(a, b api.Cell) bool { return a.N == b.N })
	}
	if count == 0 || len(row) == 0 {
		return row
	}
	c := &row[r.Intn(len(row))]
	switch r.Intn(40) {
	case 0:
		c.N = r.Int() - r.Int()
	case 1:
		c.N = []int{-1, own - 1, own, own + 1}[r.Intn(4)]
	case 2:
		c.S = strings.Repeat("s", r.Intn(200))
	case 3:
		c.S = c.S[1:]
	}
	return row
}

func anyCrash(r *rand.Rand) api.Crash {
	keep := make([]byte, r.Intn(4))
	r.Read(keep)
	return api.Crash{Keep: string(keep), Torn: r.Intn(8) - 2, Bytes: r.Intn(70) - 3}
}

func anySize(r *rand.Rand) int {
	switch r.Intn(8) {
	case 0:
		return 40 + r.Intn(4)
	case 1:
		return 1 + r.Intn(60)
	}
	return 42 + r.Intn(20)
}

// anyHead is a sector that is a head, or nearly one.
func anyHead(r *rand.Rand, place, own int, room string) string {
	number := 1 + r.Intn(6)
	switch r.Intn(4) {
	case 0:
		number = r.Intn(1 << 32)
	case 1:
		number = 1<<32 - 1 - r.Intn(4)
	}
	if r.Intn(8) > 0 {
		number += place - number%2
	}
	cells := sixteen[:r.Intn(17)]
	if r.Intn(2) == 0 {
		cells = nil
		for n := 0; n < own && len(cells) < 16; n += 1 + r.Intn(5) {
			cells = append(cells, n)
		}
	}
	sum := plainSum(room[:64*len(cells)])
	if r.Intn(8) == 0 {
		sum++
	}
	s := laid(number, cells, sum)
	switch r.Intn(8) {
	case 0:
		s = sealed(with(s, r.Intn(62), string([]byte{byte(r.Intn(256))}))[:62])
	case 1:
		s = with(s, r.Intn(64), string([]byte{byte(r.Intn(256))}))
	case 2:
		s = anySector(r)
	}
	return s
}

// anyImage are any bytes, mostly with heads ahead of them.
func anyImage(r *rand.Rand, sectors int) string {
	b := make([]byte, 64*sectors)
	r.Read(b)
	if r.Intn(10) == 0 || sectors < 34 {
		return string(b)
	}
	s := string(b)
	return anyHead(r, 0, sectors-34, s[2*64:]) + anyHead(r, 1, sectors-34, s[18*64:]) + s[2*64:]
}

// holdBegun holds a log that was begun, or none, against the model's.
func holdBegun(t *testing.T, l *Log, err api.Errno, d *disk.Disk, o *model, wantErr api.Errno, want *disk.Disk) {
	t.Helper()
	hold(t, err, wantErr)
	holdDisk(t, d, want)
	if (l == nil) != (err != api.OK) {
		t.Fatalf("%v beside %d", l, err)
	}
	if l != nil {
		o.hold(t, l, d)
	}
}

// P19.1, R1: any bytes as a disk's image, its power there, gone or going.
func TestAnyImage(t *testing.T) {
	r := rand.New(rand.NewSource(191))
	seen := map[api.Errno]int{}
	for range 6000 {
		d := imaged(t, anyImage(r, anySize(r)))
		switch r.Intn(6) {
		case 0:
			hold(t, d.Arm(1+r.Intn(8), anyCrash(r)), api.OK)
		case 1:
			hold(t, d.Crash(anyCrash(r)), api.OK)
		}
		want := d.Clone()
		begin, wantBegin := Open, modelOpen
		if r.Intn(8) == 0 {
			begin, wantBegin = Format, modelFormat
		}
		l, err := begin(d)
		o, wantErr := wantBegin(want)
		holdBegun(t, l, err, d, o, wantErr, want)
		if l != nil {
			o.holdReads(t, l)
		}
		seen[err]++
	}
	for _, err := range []api.Errno{api.OK, api.ErrDead, api.ErrWalForm, api.ErrCorrupt} {
		if seen[err] < 100 {
			t.Errorf("error %d was seen %d times alone", err, seen[err])
		}
	}
}

// pair is a log, its disk, and the model that they are held against.
type pair struct {
	l *Log
	d *disk.Disk
	o *model
}

// begin formats or opens the disks of a pair anew; a pair whose log can't be begun keeps that which it has.
func (p *pair) begin(t *testing.T, format bool) {
	t.Helper()
	begin, wantBegin := Open, modelOpen
	if format {
		begin, wantBegin = Format, modelFormat
	}
	l, err := begin(p.d)
	o, wantErr := wantBegin(p.o.d)
	holdBegun(t, l, err, p.d, o, wantErr, p.o.d)
	if l != nil {
		p.l, p.o = l, o
	}
}

// P19.1 to P19.4: any row of calls, on logs and clones of theirs side by side, each held against a model of its own.
func TestAnyCalls(t *testing.T) {
	r := rand.New(rand.NewSource(192))
	for range 150 {
		d := blank(t, 42+r.Intn(12))
		want := d.Clone()
		l, err := Format(d)
		hold(t, err, api.OK)
		o, _ := modelFormat(want)
		row := []*pair{{l, d, o}}
		for range 120 {
			p := row[r.Intn(len(row))]
			if r.Intn(25) == 0 {
				d := p.d.Clone()
				p = &pair{p.l.Clone(d), d, p.o.clone()}
				if len(row) == 4 {
					row = row[1:]
				}
				row = append(row, p)
			}
			anyCall(t, r, p)
			for _, p := range row {
				p.o.hold(t, p.l, p.d)
			}
		}
		for _, p := range row {
			p.o.holdReads(t, p.l)
		}
	}
}

func anyCall(t *testing.T, r *rand.Rand, p *pair) {
	t.Helper()
	switch r.Intn(20) {
	case 0, 1:
		step, c := r.Intn(16), anyCrash(r)
		hold(t, p.d.Arm(step, c), p.o.d.Arm(step, c))
	case 2:
		c := anyCrash(r)
		hold(t, p.d.Crash(c), p.o.d.Crash(c))
	case 3, 4:
		p.d.Revive()
		p.o.d.Revive()
	case 5, 6, 7:
		p.begin(t, r.Intn(10) == 0)
	case 8, 9:
		n := r.Intn(p.o.sectors()+4) - 2
		if r.Intn(9) == 0 {
			n = r.Int() - r.Int()
		}
		got, err := p.l.Read(n)
		want, wantErr := p.o.read(n)
		if got != want || err != wantErr {
			t.Fatalf("Read(%d): %q, %d, wanted %q, %d", n, got, err, want, wantErr)
		}
	default:
		cells := anyCells(r, p.o.sectors())
		was := slices.Clone(cells)
		hold(t, p.l.Commit(cells), p.o.commit(was))
		if !slices.Equal(cells, was) {
			t.Fatalf("Commit changed its cells to %v", cells)
		}
	}
}

// P19.5: a log's whole life, the power going again and again, also while it is opened: told by its own sectors alone.
func TestAnyLife(t *testing.T) {
	r := rand.New(rand.NewSource(195))
	for range 60 {
		size := 42 + r.Intn(12)
		image := noughts(34) + strings.Repeat(fill("o"), size-34)
		d := imaged(t, image)
		l, err := Format(d)
		hold(t, err, api.OK)
		number, state := 1, image[34*64:]
		for range 60 {
			cells := anyCells(r, size-34)
			if r.Intn(2) == 0 {
				hold(t, d.Arm(1+r.Intn(stepsOf(cells)+1), anyCrash(r)), api.OK)
			}
			err := l.Commit(cells)
			if err != api.ErrArg && err != api.ErrWalFull {
				x := crashed{d, state, changed(state, cells), number, err == api.OK}
				if err == api.ErrDead {
					l = openedAtLast(t, r, d)
				}
				number += boolInt(x.holdFound(t, l))
				state = own(t, l)
			}
			if r.Intn(5) == 0 {
				d.Revive()
				hold(t, d.Crash(anyCrash(r)), api.OK)
				l = openedAtLast(t, r, d)
			}
			if l.Number() != number || own(t, l) != state {
				t.Fatalf("Number %d, wanted %d", l.Number(), number)
			}
		}
	}
}

// openedAtLast is a log that was opened, behind some times in which the power went.
func openedAtLast(t *testing.T, r *rand.Rand, d *disk.Disk) *Log {
	t.Helper()
	for {
		d.Revive()
		if r.Intn(2) == 0 {
			hold(t, d.Arm(1+r.Intn(5), anyCrash(r)), api.OK)
		}
		l, err := Open(d)
		if err == api.OK {
			d.Revive()
			return l
		}
		hold(t, err, api.ErrDead)
	}
}
