package disk

import (
	"math"
	"math/rand"
	"strings"
	"testing"

	"zoetrope/api"
)

// anyText is mostly a sector's, now and then of any size.
func anyText(r *rand.Rand) string {
	size := 64
	switch r.Intn(12) {
	case 0:
		size = r.Intn(130)
	case 1:
		size = 63 + r.Intn(3)
	}
	if r.Intn(2) == 0 {
		return strings.Repeat(string([]byte{byte(r.Intn(256))}), size)
	}
	b := make([]byte, size)
	r.Read(b)
	return string(b)
}

// anyPlace is mostly one of few sectors, so that writes meet.
func anyPlace(r *rand.Rand, sectors int) int {
	switch r.Intn(15) {
	case 0:
		return r.Int() - r.Int()
	case 1:
		return r.Intn(3) - 2
	case 2:
		return sectors - 1 + r.Intn(3)
	}
	return r.Intn(min(sectors, 4))
}

func anyCrash(r *rand.Rand) api.Crash {
	keep := make([]byte, r.Intn(4))
	r.Read(keep)
	c := api.Crash{Keep: string(keep), Torn: r.Intn(12) - 2, Bytes: r.Intn(70) - 3}
	switch r.Intn(10) {
	case 0:
		c.Torn = r.Int() - r.Int()
	case 1:
		c.Bytes = r.Int() - r.Int()
	case 2:
		c.Torn, c.Bytes = math.MaxInt, math.MinInt
	}
	return c
}

func anySectors(r *rand.Rand) int {
	switch r.Intn(6) {
	case 0:
		return 1
	case 1:
		return 2
	}
	return 1 + r.Intn(9)
}

// pair is a disk and the model that it is held against.
type pair struct {
	disk  *Disk
	model *model
}

// P18.1 to P18.4: any row of calls, on disks and clones of theirs side by side, each held against a model of its own.
func TestAnyCalls(t *testing.T) {
	r := rand.New(rand.NewSource(18))
	for range 400 {
		sectors := anySectors(r)
		image := make([]byte, 64*sectors)
		r.Read(image)
		row := []pair{{opened(t, string(image)), newModel(string(image))}}
		for range 100 {
			p := row[r.Intn(len(row))]
			if r.Intn(25) == 0 {
				p = pair{p.disk.Clone(), p.model.clone()}
				if len(row) == 4 {
					row = row[1:]
				}
				row = append(row, p)
			}
			anyCall(t, r, p, sectors)
			for _, p := range row {
				p.model.hold(t, p.disk)
			}
		}
	}
}

func anyCall(t *testing.T, r *rand.Rand, p pair, sectors int) {
	t.Helper()
	switch r.Intn(20) {
	case 0, 1:
		hold(t, p.disk.Flush(), p.model.flush())
	case 2, 3:
		step, c := r.Intn(9)-1, anyCrash(r)
		hold(t, p.disk.Arm(step, c), p.model.arm(step, c))
	case 4:
		c := anyCrash(r)
		hold(t, p.disk.Crash(c), p.model.crashNow(c))
	case 5, 6, 7:
		if p.model.isDead || r.Intn(8) == 0 {
			p.disk.Revive()
			p.model.revive()
		}
	default:
		n, s := anyPlace(r, sectors), anyText(r)
		hold(t, p.disk.Write(n, s), p.model.write(n, s))
	}
}

// P18.1, R1: any numbers, any texts: nothing fails.
func TestAnySizes(t *testing.T) {
	r := rand.New(rand.NewSource(19))
	for range 2000 {
		size := r.Intn(300)
		image := strings.Repeat("i", size)
		d, err := Open(image)
		isDisk := size > 0 && size%64 == 0
		if (d != nil) != isDisk || (err == api.OK) != isDisk || (!isDisk && err != api.ErrDiskSize) {
			t.Fatalf("Open of %d bytes: %v, %d", size, d, err)
		}
		sectors := r.Int() - r.Int()
		if d, err := New(sectors); d != nil || err != api.ErrDiskSize {
			t.Fatalf("New(%d): %v, %d", sectors, d, err)
		}
	}
}

// P18.5: behind any crash a sector is as it was sure, or as one of its loose writes, or one of these with the torn one's first bytes.
func TestAnyCrashLeaves(t *testing.T) {
	r := rand.New(rand.NewSource(20))
	for range 3000 {
		sectors := anySectors(r)
		d := opened(t, numbered(sectors))
		states := make([][]string, sectors)
		for n := range states {
			states[n] = []string{numbered(sectors)[64*n:][:64]}
		}
		c := anyCrash(r)
		tornAt, torn := -1, ""
		for i := range r.Intn(30) {
			n, s := r.Intn(sectors), anyText(r)
			if len(s) != 64 {
				s = fill("!")
			}
			hold(t, d.Write(n, s), api.OK)
			states[n] = append(states[n], s)
			if i == c.Torn {
				tornAt, torn = n, s
			}
		}
		hold(t, d.Crash(c), api.OK)
		d.Revive()
		for n := range sectors {
			got, err := d.Read(n)
			hold(t, err, api.OK)
			if !isOneOf(got, states[n]) && (n != tornAt || !isMixed(got, torn, states[n])) {
				t.Fatalf("sector %d behind %+v: %q", n, c, got)
			}
		}
	}
}

func isOneOf(s string, states []string) bool {
	for _, x := range states {
		if s == x {
			return true
		}
	}
	return false
}

// isMixed tells whether a text is one of the states but for some first bytes, which are the torn write's.
func isMixed(s, torn string, states []string) bool {
	for _, x := range states {
		for k := range 65 {
			if s == torn[:k]+x[k:] {
				return true
			}
		}
	}
	return false
}

// P18.3: many more loose writes than Keep has bits.
func TestManyLoose(t *testing.T) {
	const writes = 20000
	keep := strings.Repeat("\x01\x80", 600)
	d, o := made(t, 4096), newModel(noughts(4096))
	for i := range writes {
		n, s := i*7%4096, fill(string([]byte{byte(i)}))
		hold(t, d.Write(n, s), api.OK)
		hold(t, o.write(n, s), api.OK)
	}
	c := api.Crash{Keep: keep, Torn: writes - 1, Bytes: 7}
	hold(t, d.Crash(c), api.OK)
	hold(t, o.crashNow(c), api.OK)
	o.hold(t, d)
	d.Revive()
	o.revive()
	o.hold(t, d)
}
