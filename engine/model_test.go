package engine

import (
	"encoding/binary"
	"fmt"
	"slices"
	"strings"
	"testing"

	"zoetrope/api"
	"zoetrope/asm"
	"zoetrope/bus"
	"zoetrope/cpu"
)

const startAt = 0x80000200

// dmaWay is the register of the dma that begins a move, if it is told to.
const dmaWay = api.DevDma + 8

func wordsOf(t *testing.T, lines ...string) []uint32 {
	t.Helper()
	l, e := asm.Lines(strings.Join(lines, "\n"))
	if e != api.OK {
		t.Fatal(lines, e)
	}
	return l
}

func newMachine(t *testing.T, pages, room int, f api.Flags) *Machine {
	t.Helper()
	m, e := New(pages, room, f)
	if e != api.OK || m == nil {
		t.Fatal(e)
	}
	return m
}

// lay stores words into memory.
func lay(t *testing.T, b *bus.Bus, at uint32, l []uint32) {
	t.Helper()
	for n, w := range l {
		if e := b.Store(at+4*uint32(n), 4, w); e != api.OK {
			t.Fatal(at, n, e)
		}
	}
}

// made is a machine of eight pages with a program where a processor begins.
func made(t *testing.T, room int, f api.Flags, lines ...string) *Machine {
	t.Helper()
	m := newMachine(t, 8, room, f)
	lay(t, m.Bus(), 0x200, wordsOf(t, lines...))
	return m
}

// many is a line so often.
func many(n int, line string) []string { return slices.Repeat([]string{line}, n) }

func run(t *testing.T, m *Machine, n int, events ...api.Event) {
	t.Helper()
	if got := m.Run(n, events); got != n {
		t.Fatalf("Run(%d): %d", n, got)
	}
}

// holdBlocks holds how many blocks were translated, and how many steps were made in blocks.
func holdBlocks(t *testing.T, what any, m *Machine, made, done int) {
	t.Helper()
	if m.Made() != made || m.Done() != done {
		t.Errorf("%v: made %d, done %d; wanted %d, %d", what, m.Made(), m.Done(), made, done)
	}
}

func pagesOf(m *Machine) []string {
	var l []string
	for n := range m.Bus().Memory().Pages() {
		s, _ := m.Bus().Memory().Page(n)
		l = append(l, s)
	}
	return l
}

func allFlags() []api.Flags {
	var l []api.Flags
	for n := range 8 {
		l = append(l, api.Flags{Copy: n&1 != 0, Fold: n&2 != 0, Dead: n&4 != 0})
	}
	return l
}

// kept is a block as the model keeps it.
type kept struct {
	place uint32
	words []uint32
}

// model is a machine that makes each step by cpu.Step, and reckons beside it which ones are made in blocks, and which blocks are translated.
type model struct {
	c                 api.Cpu
	b                 *bus.Bus
	count, made, done int
	room              int
	row               []kept // the oldest first
}

func newModel(m *Machine, room int) *model {
	return &model{c: m.Cpu(), b: m.Bus().Clone(), count: m.Count(), made: m.Made(), done: m.Done(), room: room}
}

func (o *model) clone() *model {
	c := *o
	c.b, c.row = o.b.Clone(), slices.Clone(o.row)
	return &c
}

func (o *model) run(n int, events []api.Event) int {
	steps, left := 0, 0 // left are those of the block at hand
	for ; steps < n && o.count < 1<<40; steps++ {
		for _, e := range events {
			if e.At == o.count {
				o.b.Feed(e)
			}
		}
		if left == 0 {
			left = o.begin(n-steps, events)
		}
		if left > 0 {
			left--
			o.done++
		}
		cpu.Step(&o.c, o.b)
		o.count++
	}
	return steps
}

// begin tells how many steps are made in a block from here on, and keeps that block.
func (o *model) begin(wanted int, events []api.Event) int {
	busy := o.b.Dma().Busy
	if o.c.Delay || o.c.Next-o.c.PC != 4 || o.c.PC%4 != 0 || o.c.C.Status%4 == 1 || busy == 1 {
		return 0
	}
	at, code, _ := cpu.Where(&o.c, o.c.PC, false)
	if code >= 0 {
		return 0
	}
	var words []uint32
	for place := at; len(words) < 16 && place/256 == at/256; place += 4 {
		w, there := o.b.Peek(place)
		if !there || !isPlain(w) {
			break
		}
		words = append(words, w)
	}
	if len(words) == 0 {
		return 0
	}
	o.keep(at, words)
	for k := 1; k < len(words); k++ {
		isEvent := slices.ContainsFunc(events, func(e api.Event) bool { return e.At == o.count+k })
		if k == wanted || isEvent || uint32(k+1) == busy {
			return k
		}
	}
	return len(words)
}

func (o *model) keep(at uint32, words []uint32) {
	for n, k := range o.row {
		if k.place != at {
			continue
		}
		if slices.Equal(k.words, words) {
			return
		}
		o.row = slices.Concat(o.row[:n], o.row[n+1:])
		break
	}
	o.row = append(slices.Clip(o.row), kept{at, words})
	o.row = o.row[max(len(o.row)-o.room, 0):]
	o.made++
}

// isPlain reads a word's bits, so that the model shares nothing with the packages that translate.
func isPlain(w uint32) bool {
	rs, sa := w>>21&31, w>>6&31
	switch w >> 26 {
	case 0:
		switch w & 63 {
		case 0, 2, 3:
			return rs == 0
		case 4, 6, 7, 33, 35, 36, 37, 38, 39, 42, 43:
			return sa == 0
		}
	case 9, 10, 11, 12, 13, 14:
		return true
	case 15:
		return rs == 0
	}
	return false
}

// number is one of 32 bits as bytes.
func number(v uint32) string { return string(binary.BigEndian.AppendUint32(nil, v)) }

func (o *model) rest() string {
	return number(uint32(o.count>>32)) + number(uint32(o.count)) + cpu.Text(&o.c) + o.b.Devices()
}

// hold holds all that a machine tells against the model.
func (o *model) hold(t *testing.T, what any, m *Machine) {
	t.Helper()
	o.holdState(t, what, m)
	if m.Made() != o.made || m.Done() != o.done {
		t.Fatalf("%v: made %d, done %d; wanted %d, %d", what, m.Made(), m.Done(), o.made, o.done)
	}
}

// holdState holds what no room and no passes make another one.
func (o *model) holdState(t *testing.T, what any, m *Machine) {
	t.Helper()
	if c := m.Cpu(); c != o.c {
		t.Fatalf("%v: the processor\n%+v, wanted\n%+v", what, c, o.c)
	}
	if m.Count() != o.count || m.Bus().Devices() != o.b.Devices() || m.Rest() != o.rest() {
		t.Fatalf("%v: count %d, wanted %d; devices\n%q, wanted\n%q", what, m.Count(), o.count, m.Bus().Devices(), o.b.Devices())
	}
	got, want := m.Bus().Memory(), o.b.Memory()
	if got.Image() != want.Image() || !slices.Equal(got.Dirty(), want.Dirty()) {
		t.Fatalf("%v: another memory than wanted; dirty %v, wanted %v", what, got.Dirty(), want.Dirty())
	}
}

// pair is a machine, and what it should be.
type pair struct {
	m *Machine
	o *model
}

func newPair(m *Machine, room int) pair { return pair{m, newModel(m, room)} }

func (p pair) run(t *testing.T, n int, events []api.Event) {
	t.Helper()
	want := p.o.run(n, events)
	if got := p.m.Run(n, events); got != want {
		t.Fatalf("Run(%d): %d, wanted %d", n, got, want)
	}
	p.o.hold(t, fmt.Sprintf("Run(%d, %v)", n, events), p.m)
}

func (p pair) set(c api.Cpu) {
	p.m.Set(c)
	c.R[0] = 0
	p.o.c = c
}
