package engine

import (
	"fmt"
	"slices"
	"strings"
	"testing"

	"zoetrope/api"
	"zoetrope/cpu"
)

// cpuAt, devicesAt are where the parts of a rest begin; its numbers have four bytes each.
const (
	cpuAt     = 8
	devicesAt = cpuAt + 4*63
)

// with is a rest with other bytes from a place on.
func with(rest string, at int, s string) string { return rest[:at] + s + rest[at+len(s):] }

// busy is a machine in the midst of a run in which all devices have something.
func busy(t *testing.T) *Machine {
	t.Helper()
	m := withProgram(t, 5, api.Flags{Copy: true, Fold: true}, programs()["mover"])
	m.Bus().Store(api.DevTimer, 4, 17)
	m.Bus().Store(api.DevUart, 4, 'o')
	run(t, m, 333, api.Event{At: 5, V: 'i'}, api.Event{At: 6, V: 'j'}, api.Event{At: 7, Kind: api.EventStir, V: 99})
	return m
}

// P17.4: a rest is the count, the processor's state and the devices'.
func TestRest(t *testing.T) {
	m := newMachine(t, 4, 1, api.Flags{})
	c := m.Cpu()
	if got := m.Rest(); got != "\x00\x00\x00\x00\x00\x00\x00\x00"+cpu.Text(&c)+m.Bus().Devices() {
		t.Errorf("%q", got)
	}
	m = busy(t)
	c = m.Cpu()
	rest := m.Rest()
	if rest != "\x00\x00\x00\x00\x00\x00\x01\x4d"+cpu.Text(&c)+m.Bus().Devices() || rest[devicesAt:] != m.Bus().Devices() || len(rest) > api.MaxRest {
		t.Errorf("%q", rest)
	}
	for _, count := range []int{0, 1, 255, 256, 1<<32 - 1, 1 << 32, 1<<32 + 5, 0x12_3456_789a, 1<<40 - 1, 1 << 40} {
		atCount(t, m, count)
		if got := m.Rest(); got[:8] != fmt.Sprintf("%s%s", number(uint32(count>>32)), number(uint32(count))) || got[8:] != rest[8:] {
			t.Errorf("%d: %q", count, got[:8])
		}
	}
}

// P17.4: what it tells is loaded by another machine: all but memory is the rest's, memory is the pages', all dirty.
func TestLoad(t *testing.T) {
	m := busy(t)
	rest, pages := m.Rest(), pagesOf(m)
	k := made(t, 2, api.Flags{Dead: true}, many(40, "addiu $1,$1,1")...)
	run(t, k, 20, api.Event{At: 3, V: 'x'})
	k.Bus().Memory().Clean()
	if e := k.Load(rest, pages); e != api.OK {
		t.Fatal(e)
	}
	if k.Rest() != rest || k.Cpu() != m.Cpu() || k.Count() != 333 || k.Bus().Devices() != m.Bus().Devices() || !slices.Equal(pagesOf(k), pages) {
		t.Errorf("%+v", k.Cpu())
	}
	if got := k.Bus().Memory().Dirty(); !slices.Equal(got, []int{0, 1, 2, 3, 4, 5, 6, 7}) {
		t.Error(got)
	}
	holdBlocks(t, "loaded", k, 3, 20)
}

// P17.4: blocks stay: of the same words none is translated again.
func TestLoadBlocks(t *testing.T) {
	m := made(t, 8, api.Flags{}, many(48, "addiu $1,$1,1")...)
	rest, pages := m.Rest(), pagesOf(m)
	run(t, m, 48)
	load := func(pages []string) {
		if e := m.Load(rest, pages); e != api.OK {
			t.Fatal(e)
		}
		run(t, m, 48)
	}
	load(pages)
	holdBlocks(t, "the same", m, 3, 96)
	other := slices.Clone(pages)
	other[2] = with(other[2], 0x47, "\x05")
	load(other)
	holdBlocks(t, "one other word", m, 4, 144)
	if m.Cpu().R[1] != 52 {
		t.Error(m.Cpu().R[1])
	}
	load(pages)
	holdBlocks(t, "and back", m, 5, 192)
	load(pages)
	holdBlocks(t, "again", m, 5, 240)
}

// P17.4, R4: the pages that are handed in stay as they are, and are not kept.
func TestLoadOwner(t *testing.T) {
	m := busy(t)
	room := append(pagesOf(m), "behind", "all")
	was := slices.Clone(room)
	if e := m.Load(m.Rest(), room[:8]); e != api.OK {
		t.Fatal(e)
	}
	run(t, m, 100)
	if !slices.Equal(room, was) {
		t.Error("another list")
	}
	image := m.Bus().Memory().Image()
	clear(room)
	if m.Bus().Memory().Image() != image {
		t.Error("the list is kept")
	}
}

// whole is all that a machine tells.
type whole struct {
	rest, image       string
	c                 api.Cpu
	count, made, done int
	dirty             string
}

func wholeOf(m *Machine) whole {
	return whole{m.Rest(), m.Bus().Memory().Image(), m.Cpu(), m.Count(), m.Made(), m.Done(), fmt.Sprint(m.Bus().Memory().Dirty())}
}

// P17.4: what is no such rest, and pages that are not such, are refused, and change nothing, also not which blocks there are.
func TestLoadRefuses(t *testing.T) {
	m := busy(t)
	rest, pages := m.Rest(), pagesOf(m)
	k := made(t, 3, api.Flags{Fold: true}, append(many(48, "addiu $1,$1,1"), "j 128", "nor $2,$1,$1")...)
	run(t, k, 101)
	k.Bus().Memory().Clean()
	k.Bus().Store(0x500, 4, 9)
	blocks := k.Clone()
	before, bus := wholeOf(k), k.Bus()
	refuse := func(what any, rest string, pages []string) {
		t.Helper()
		if e := k.Load(rest, pages); e != api.ErrEngineForm || wholeOf(k) != before || k.Bus() != bus {
			t.Errorf("%v: %d, or something was changed", what, e)
		}
	}
	for n := range len(rest) {
		refuse(n, rest[:n], pages)
	}
	for what, x := range map[string]string{
		"longer": rest + "\x00", "twice": rest + rest, "long": strings.Repeat("\x00", 5000), "noughts": strings.Repeat("\x00", len(rest)-1),
		"count 2^40+1": with(rest, 0, "\x00\x00\x01\x00\x00\x00\x00\x01"), "count 2^40+2^32": with(rest, 0, "\x00\x00\x01\x01\x00\x00\x00\x00"), "count 2^41": with(rest, 0, "\x00\x00\x02\x00\x00\x00\x00\x00"), "count 2^48": with(rest, 0, "\x00\x01\x00\x00\x00\x00\x00\x00"),
		"count 2^63": with(rest, 0, "\x80\x00\x00\x00\x00\x00\x00\x00"), "count 2^63 and more": with(rest, 0, "\x80\x00\x00\x00\x00\x00\x00\x09"), "count 2^64-1": with(rest, 0, strings.Repeat("\xff", 8)), "count 2^56": with(rest, 0, "\x01\x00\x00\x00\x00\x00\x00\x00"),
		"delay 2": with(rest, cpuAt+8, number(2)), "delay 2^24": with(rest, cpuAt+8, number(1<<24)), "register 0": with(rest, cpuAt+12, number(1)), "link 2": with(rest, cpuAt+4*37, number(2)),
		"timer": with(rest, devicesAt+8, "\x02"), "dma": with(rest, devicesAt+25, "\x02"), "rng": with(rest, devicesAt+26, number(65521)), "uart": with(rest, devicesAt+42+1024, "\x02"), "uart, long": with(rest, devicesAt+42+1025, "\x11"),
	} {
		refuse(what, x, pages)
		refuse(what+", no pages", x, nil)
	}
	refuse("no pages", rest, nil)
	for n := range 8 {
		refuse("too few", rest, pages[:n])
		for _, s := range []string{"", pages[n][:255], pages[n] + "\x00", pages[n] + pages[n]} {
			other := slices.Clone(pages)
			other[n] = s
			refuse(fmt.Sprint(n, " has ", len(s)), rest, other)
		}
	}
	refuse("too many", rest, append(slices.Clone(pages), pages[0]))
	refuse("far too many", rest, slices.Repeat(pages, 8))
	refuse("an empty one too many", rest, append(slices.Clone(pages), ""))
	for range 10 {
		run(t, k, 55)
		run(t, blocks, 55)
		if wholeOf(k) != wholeOf(blocks) {
			t.Fatal("it goes on in another way than if nothing was refused")
		}
	}
	if e := k.Load(with(rest, 0, "\x00\x00\x01\x00\x00\x00\x00\x00"), pages); e != api.OK || k.Count() != 1<<40 || k.Run(1, nil) != 0 {
		t.Error(e, k.Count())
	}
}

// P17.4: machines with other pages refuse these.
func TestLoadPages(t *testing.T) {
	for _, from := range []int{4, 5, 63, 64} {
		for _, to := range []int{4, 5, 63, 64} {
			m, k := newMachine(t, from, 1, api.Flags{}), newMachine(t, to, 1, api.Flags{})
			want := api.Errno(api.OK)
			if from != to {
				want = api.ErrEngineForm
			}
			if e := k.Load(m.Rest(), pagesOf(m)); e != want {
				t.Errorf("%d to %d: %d", from, to, e)
			}
		}
	}
}

// P17.5: behind Load another machine, with any room and passes, also one with blocks of its own, goes on as that one did.
func TestLoadGoesOn(t *testing.T) {
	events := []api.Event{{At: 150, V: 65}, {At: 160, Kind: api.EventStir, V: 3}, {At: 400, V: 66}, {At: 10, V: 67}}
	for name, lines := range programs() {
		for n, f := range allFlags() {
			m := withProgram(t, 1+n*n, f, lines)
			run(t, m, 123+n, events...)
			rest, pages := m.Rest(), pagesOf(m)
			run(t, m, 400, events...)
			for _, room := range []int{1, 64} {
				for _, g := range allFlags() {
					k := withProgram(t, room, g, programs()["loop"])
					run(t, k, 10*n)
					if e := k.Load(rest, pages); e != api.OK {
						t.Fatal(name, e)
					}
					if run(t, k, 400, events...); k.Rest() != m.Rest() || k.Bus().Memory().Image() != m.Bus().Memory().Image() {
						t.Fatalf("%s, %+v to %d %+v: %+v, wanted\n%+v", name, f, room, g, k.Cpu(), m.Cpu())
					}
				}
			}
		}
	}
}

// P17.5: steps in two goes, wherever these part, are steps at once.
func TestTwoGoes(t *testing.T) {
	events := []api.Event{{At: 30, V: 65}, {At: 29, Kind: api.EventStir, V: 3}, {At: 31, V: 66}, {At: 30, V: 67}, {At: 60, V: 68}, {At: 0, V: 69}}
	for name, lines := range programs() {
		all := withProgram(t, 4, api.Flags{Dead: true}, lines)
		run(t, all, 60, events...)
		for first := range 61 {
			m := withProgram(t, 4, api.Flags{Dead: true}, lines)
			run(t, m, first, events...)
			run(t, m, 60-first, events...)
			if m.Rest() != all.Rest() || m.Bus().Memory().Image() != all.Bus().Memory().Image() || m.Done() != all.Done() {
				t.Errorf("%s, %d: %+v, wanted\n%+v", name, first, m.Cpu(), all.Cpu())
			}
		}
	}
}

// P17.4, R7: a clone tells what its original tells, and goes its own way from then on, as that does.
func TestClone(t *testing.T) {
	for _, isCloneFirst := range []bool{false, true} {
		m := busy(t)
		m.Bus().Memory().Clean()
		m.Bus().Store(0x400, 1, 7)
		k := m.Clone()
		if wholeOf(k) != wholeOf(m) || k.Bus() == m.Bus() || k.Bus().Memory() == m.Bus().Memory() {
			t.Fatal("another one")
		}
		if isCloneFirst {
			m, k = k, m
		}
		before := wholeOf(k)
		was := k.Clone()
		run(t, m, 77, api.Event{At: 340, V: 3})
		m.Bus().Store(0x500, 4, 8)
		m.Bus().Store(api.DevTimer, 4, 3)
		m.Set(cpu.Reset())
		m.Flush()
		if wholeOf(k) != before {
			t.Error("the other one goes, too")
		}
		for range 5 {
			run(t, k, 99)
			run(t, was, 99)
		}
		if wholeOf(k) != wholeOf(was) {
			t.Error("the other one goes on in another way")
		}
	}
}

// P17.4: a clone has the blocks, with their ages, and the room.
func TestCloneBlocks(t *testing.T) {
	m := made(t, 3, api.Flags{Fold: true}, many(64, "addiu $1,$1,1")...)
	at := func(m *Machine, n uint32) int {
		c := cpu.Reset()
		c.PC, c.Next = startAt+64*n, startAt+64*n+4
		m.Set(c)
		was := m.Made()
		run(t, m, 16)
		return m.Made() - was
	}
	for _, n := range []uint32{2, 0, 1} {
		at(m, n)
	}
	for n := range uint32(3) {
		if k := m.Clone(); at(k, n) != 0 {
			t.Error(n, "is missing")
		}
	}
	k := m.Clone().Clone()
	m.Flush()
	for _, x := range []struct {
		n    uint32
		want int
	}{{1, 0}, {2, 0}, {3, 1}, {0, 0}, {1, 0}, {2, 1}, {1, 0}, {3, 0}, {0, 1}, {1, 1}} {
		if got := at(k, x.n); got != x.want {
			t.Errorf("%+v: %d", x, got)
		}
	}
	if at(m, 1) != 1 || at(m.Clone(), 1) != 0 {
		t.Error("the flushed one")
	}
}

// P17.4: a clone has the passes: what Flush forgets is translated with them again, to the same.
func TestClonePasses(t *testing.T) {
	for _, f := range allFlags() {
		m := withProgram(t, 2, f, programs()["loop"])
		run(t, m, 50)
		k := m.Clone()
		k.Flush()
		run(t, m, 200)
		run(t, k, 200)
		if k.Rest() != m.Rest() || k.Done() != m.Done() {
			t.Errorf("%+v: %+v", f, k.Cpu())
		}
	}
}
