package engine

import (
	"fmt"
	"math"
	"slices"
	"strings"
	"testing"

	"zoetrope/api"
	"zoetrope/bus"
	"zoetrope/cpu"
)

// P17.1: what is at its bounds, and below and above them; the bus's error comes first.
func TestNewErrors(t *testing.T) {
	for _, x := range []struct {
		pages, room int
		want        api.Errno
	}{
		{4, 1, 0}, {64, 64, 0}, {4, 64, 0}, {64, 1, 0}, {8, 8, 0},
		{3, 1, 60}, {65, 1, 60}, {0, 1, 60}, {-4, 1, 60}, {math.MinInt, 64, 60}, {math.MaxInt, 64, 60},
		{4, 0, 160}, {4, 65, 160}, {64, -1, 160}, {64, math.MinInt, 160}, {64, math.MaxInt, 160},
		{3, 0, 60}, {65, 65, 60}, {0, 0, 60}, {-1, -1, 60},
	} {
		for _, f := range allFlags() {
			m, e := New(x.pages, x.room, f)
			if e != x.want || (m != nil) != (e == api.OK) {
				t.Errorf("New(%d, %d): %v, %d; wanted %d", x.pages, x.room, m, e, x.want)
			}
			if m != nil && m.Bus().Memory().Pages() != x.pages {
				t.Errorf("New(%d, %d): %d pages", x.pages, x.room, m.Bus().Memory().Pages())
			}
		}
	}
}

// P17.1: a machine at its beginning.
func TestNewState(t *testing.T) {
	m := newMachine(t, 5, 3, api.Flags{Copy: true})
	b, _ := bus.New(5)
	c := api.Cpu{PC: startAt, Next: startAt + 4}
	if m.Cpu() != c || m.Count() != 0 || m.Made() != 0 || m.Done() != 0 {
		t.Errorf("%+v, %d, %d, %d", m.Cpu(), m.Count(), m.Made(), m.Done())
	}
	if m.Bus().Devices() != b.Devices() || m.Bus().Memory().Image() != strings.Repeat("\x00", 5*256) || m.Bus().Memory().Dirty() != nil {
		t.Error("another bus")
	}
}

// P17.1: two machines share nothing.
func TestNewOthers(t *testing.T) {
	m, k := made(t, 4, api.Flags{}, many(4, "addiu $1,$1,1")...), newMachine(t, 8, 4, api.Flags{})
	rest, image := k.Rest(), k.Bus().Memory().Image()
	run(t, m, 3, api.Event{Kind: api.EventByte, V: 7})
	if k.Rest() != rest || k.Bus().Memory().Image() != image || k.Count() != 0 || k.Made() != 0 || k.Done() != 0 {
		t.Error("the other one went, too")
	}
}

// P17.1: Set's state is told, all of it but R[0]; what is told, and what was handed in, are copies.
func TestSet(t *testing.T) {
	m := made(t, 2, api.Flags{}, "addu $1,$0,$2")
	c := api.Cpu{PC: 1, Next: 2, Delay: true, Hi: 3, Lo: 4, Link: true}
	for n := range c.R {
		c.R[n] = uint32(100 + n)
	}
	c.C = api.Cp0{Index: 11, EntryLo: 12, BadVAddr: 13, Count: 14, EntryHi: 15, Compare: 16, Status: 17, Cause: 18, EPC: 19}
	for n := range c.T {
		c.T[n] = api.Entry{Hi: uint32(200 + n), Lo: uint32(300 + n)}
	}
	m.Set(c)
	want := c
	want.R[0] = 0
	if m.Cpu() != want || c.R[0] != 100 || m.Count() != 0 || m.Made() != 0 {
		t.Errorf("%+v", m.Cpu())
	}
	told := m.Cpu()
	told.R[5], c.R[6] = 7, 7
	if m.Cpu() != want {
		t.Errorf("changed: %+v", m.Cpu())
	}
	m.Set(api.Cpu{PC: startAt, Next: startAt + 4, R: [32]uint32{0: 9, 2: 5}})
	run(t, m, 1)
	if m.Cpu().R[0] != 0 || m.Cpu().R[1] != 5 || m.Count() != 1 {
		t.Errorf("%+v", m.Cpu())
	}
}

// P17.1: Set and what is done to the bus leave the count, and how much was done in blocks.
func TestSetCounts(t *testing.T) {
	m := made(t, 2, api.Flags{}, many(20, "addiu $1,$1,1")...)
	run(t, m, 18)
	m.Set(cpu.Reset())
	m.Bus().Tick()
	m.Bus().Store(0, 4, 7)
	if m.Count() != 18 {
		t.Error(m.Count())
	}
	holdBlocks(t, "set", m, 2, 18)
}

// P17.1: the bus is the machine's own: what is done to it is seen by the next step.
func TestBus(t *testing.T) {
	m := made(t, 2, api.Flags{}, "lui $5,48896", "lw $1,256($5)", "lw $2,0($6)", "sw $1,4($6)")
	b := m.Bus()
	c := m.Cpu()
	c.R[6] = 0x80000100
	m.Set(c)
	b.Feed(api.Event{Kind: api.EventByte, V: 'x'})
	b.Memory().Store(0x100, 4, 12345)
	run(t, m, 4)
	v, e := b.Load(0x104, 4)
	if m.Bus() != b || m.Cpu().R[1] != 'x' || m.Cpu().R[2] != 12345 || v != 'x' || e != api.OK {
		t.Errorf("%+v, %d, %d", m.Cpu().R, v, e)
	}
}

// P17.2: the first example of the whole.
func TestRunExample(t *testing.T) {
	for _, f := range allFlags() {
		m := made(t, 1, f, "addiu $1,$1,3", "j 128", "addiu $2,$2,1")
		run(t, m, 9)
		if c := m.Cpu(); c.R[1] != 9 || c.R[2] != 3 || c.PC != startAt || m.Count() != 9 {
			t.Errorf("%+v, %d", c, m.Count())
		}
		holdBlocks(t, f, m, 1, 3)
	}
}

// P17.2: the tenth example of the whole: a word that is no instruction.
func TestRunException(t *testing.T) {
	m := made(t, 1, api.Flags{}, "addiu $1,$1,3")
	lay(t, m.Bus(), 0x204, []uint32{0xffffffff})
	lay(t, m.Bus(), 0x180, wordsOf(t, "addiu $2,$2,1", "mfc0 $3,$14", "addiu $3,$3,4", "mtc0 $3,$14", "eret"))
	lay(t, m.Bus(), 0x208, wordsOf(t, "addiu $4,$4,1"))
	run(t, m, 3)
	if c := m.Cpu(); c.C.EPC != startAt+4 || c.C.Cause != 10<<2 || c.PC != 0x80000184 || c.R[2] != 1 {
		t.Errorf("%+v", c)
	}
	run(t, m, 5)
	if c := m.Cpu(); c.PC != startAt+12 || c.C.Status != 0 || c.R[4] != 1 || m.Count() != 8 {
		t.Errorf("%+v", c)
	}
	holdBlocks(t, "exception", m, 4, 4)
}

// P17.2: no steps of a number below 1: then nothing is fed, either.
func TestRunNone(t *testing.T) {
	m := made(t, 2, api.Flags{}, many(20, "addiu $1,$1,1")...)
	run(t, m, 5)
	rest, image := m.Rest(), m.Bus().Memory().Image()
	for _, n := range []int{0, -1, -2, -1 << 40, math.MinInt} {
		got := m.Run(n, []api.Event{{At: 5, Kind: api.EventByte, V: 65}, {At: 0, Kind: api.EventStir, V: 65}, {At: -1}, {At: 4}, {At: 6}})
		if got != 0 || m.Rest() != rest || m.Bus().Memory().Image() != image || m.Count() != 5 {
			t.Errorf("Run(%d): %d", n, got)
		}
	}
	holdBlocks(t, "none", m, 1, 5)
}

// atCount is a machine with the state of another one, at a count.
func atCount(t *testing.T, m *Machine, count int) *Machine {
	t.Helper()
	rest := number(uint32(count>>32)) + number(uint32(count)) + m.Rest()[8:]
	if e := m.Load(rest, pagesOf(m)); e != api.OK || m.Count() != count {
		t.Fatal(count, e, m.Count())
	}
	return m
}

// P17.2: no more steps than up to the count 2^40, in blocks and outside of them.
func TestRunLast(t *testing.T) {
	for _, line := range []string{"addiu $1,$1,1", "addi $1,$1,1"} {
		for _, x := range []struct{ from, n, want int }{
			{1<<40 - 3, 10, 3}, {1<<40 - 3, 3, 3}, {1<<40 - 3, 2, 2}, {1<<40 - 3, 4, 3}, {1<<40 - 1, 1, 1}, {1<<40 - 1, 2, 1}, {1<<40 - 1, 0, 0},
			{1 << 40, 1, 0}, {1 << 40, 0, 0}, {1 << 40, -1, 0}, {1 << 40, math.MaxInt, 0}, {1<<40 - 30, math.MaxInt, 30}, {1<<40 - 17, 1 << 41, 17}, {1<<40 - 5, math.MinInt, 0},
		} {
			m := atCount(t, made(t, 2, api.Flags{}, many(64, line)...), x.from)
			events := []api.Event{{At: 1 << 40, Kind: api.EventByte, V: 66}, {At: 1<<40 - 1, Kind: api.EventByte, V: 65}}
			got := m.Run(x.n, events)
			if got != x.want || m.Count() != x.from+x.want || m.Cpu().R[1] != uint32(x.want) {
				t.Errorf("from %d Run(%d): %d, wanted %d; %+v", x.from, x.n, got, x.want, m.Cpu())
			}
			fed, _ := m.Bus().Load(api.DevUart+4, 4)
			if isLast := uint32(m.Count() >> 40 & min(x.want, 1)); fed != isLast {
				t.Errorf("from %d Run(%d): %d bytes, wanted %d", x.from, x.n, fed, isLast)
			}
		}
	}
}

// P17.2: a count above 2^32 goes on as one below.
func TestRunFar(t *testing.T) {
	m := atCount(t, made(t, 2, api.Flags{}, many(40, "addiu $1,$1,1")...), 1<<32-8)
	run(t, m, 20, api.Event{At: 1<<32 + 3, Kind: api.EventByte, V: 65}, api.Event{At: 3, Kind: api.EventByte, V: 66})
	v, _ := m.Bus().Load(api.DevUart, 4)
	left, _ := m.Bus().Load(api.DevUart+4, 4)
	if m.Count() != 1<<32+12 || v != 65 || left != 0 || m.Rest()[:8] != "\x00\x00\x00\x01\x00\x00\x00\x0c" {
		t.Errorf("%d, %d, %d, %q", m.Count(), v, left, m.Rest()[:8])
	}
	holdBlocks(t, "far", m, 2, 20)
}

// taken are the bytes that have come in.
func taken(m *Machine) string {
	s := ""
	for {
		n, _ := m.Bus().Load(api.DevUart+4, 4)
		if n == 0 {
			return s
		}
		v, _ := m.Bus().Load(api.DevUart, 4)
		s += string([]byte{byte(v)})
	}
}

// P17.2: events at one count come in their order, those at several by their counts, in whatever order they stand; those ahead of the count, behind the end and of other kinds do not come.
func TestEvents(t *testing.T) {
	events := []api.Event{
		{At: 9, V: 'g'}, {At: 3, V: 'c'}, {At: 10, V: 'x'}, {At: 0, V: 'a'}, {At: 3, V: 'd'}, {At: -1, V: 'x'}, {At: 3, V: 'e'}, {At: 8, V: 'f'}, {At: 0, V: 256 + 'b'},
		{At: 5, Kind: 2, V: 'x'}, {At: 5, Kind: -1, V: 'x'}, {At: 5, Kind: math.MaxInt, V: 'x'}, {At: math.MinInt, V: 'x'}, {At: math.MaxInt, V: 'x'}, {At: 11, V: 'x'}, {At: 1 << 40, V: 'x'},
	}
	for _, line := range []string{"addiu $1,$1,1", "addi $1,$1,1"} {
		m := made(t, 2, api.Flags{}, many(64, line)...)
		run(t, m, 10, events...)
		if s := taken(m); s != "abcdefg" {
			t.Errorf("%s: %q", line, s)
		}
		run(t, m, 10, events...)
		if s := taken(m); s != "xx" {
			t.Errorf("%s, on: %q", line, s)
		}
		run(t, m, 10, events...)
		if s := taken(m); s != "" {
			t.Errorf("%s, behind all: %q", line, s)
		}
	}
}

// P17.2: in single steps each event comes once, ahead of the step at its count.
func TestEventsSteps(t *testing.T) {
	events := []api.Event{{At: 4, V: 'c'}, {At: 1, V: 'a'}, {At: 4, V: 'd'}, {At: 3, V: 'b'}, {At: 7, V: 'e'}}
	want := []string{"", "a", "", "b", "cd", "", "", "e", "", ""}
	for _, line := range []string{"addiu $1,$1,1", "addi $1,$1,1"} {
		m := made(t, 2, api.Flags{}, many(16, line)...)
		for n, s := range want {
			run(t, m, 1, events...)
			if got := taken(m); got != s {
				t.Errorf("%s, step %d: %q, wanted %q", line, n, got, s)
			}
		}
	}
}

// P17.2: an event is seen by the step at its count, and not by the one ahead; stirs, too.
func TestEventsAhead(t *testing.T) {
	for at := range 6 {
		for _, kind := range []int{api.EventByte, api.EventStir} {
			m := made(t, 2, api.Flags{}, "lui $5,48896", "addiu $1,$1,1", "lw $2,260($5)", "lw $3,768($5)", "addiu $4,$4,1", "lw $6,260($5)", "lw $7,768($5)")
			p := newPair(m, 2)
			p.run(t, 7, []api.Event{{At: at, Kind: kind, V: 65536*3 + 2}})
			bytes := [2]uint32{}
			if kind == api.EventByte && at <= 2 {
				bytes[0] = 1
			}
			if kind == api.EventByte && at <= 5 {
				bytes[1] = 1
			}
			if c := m.Cpu(); c.R[2] != bytes[0] || c.R[6] != bytes[1] || (c.R[3] == 12345+65536*6789) != (kind == api.EventByte || at > 3) {
				t.Errorf("at %d kind %d: %+v", at, kind, c.R)
			}
		}
	}
}

// P17.2: what finds no room is lost; of one count, too.
func TestEventsFull(t *testing.T) {
	var events []api.Event
	for n := range 20 {
		events = append(events, api.Event{At: n / 19, V: uint32('a' + n)})
	}
	m := made(t, 2, api.Flags{}, many(16, "addiu $1,$1,1")...)
	run(t, m, 3, events...)
	if s := taken(m); s != "abcdefghijklmnop" {
		t.Errorf("%q", s)
	}
}

// P17.2, R4: events that are handed in, and the room behind them, stay as they are, and are not kept.
func TestEventsOwner(t *testing.T) {
	room := []api.Event{{At: 9, V: 'c'}, {At: 2, V: 'a'}, {At: 50, V: 'x'}, {At: 5, V: 'b'}, {At: 3, V: 'y'}, {At: 1, V: 'z'}}
	was := slices.Clone(room)
	m := made(t, 2, api.Flags{}, many(16, "addiu $1,$1,1")...)
	run(t, m, 4, room[:4]...)
	if !slices.Equal(room, was) {
		t.Error(room)
	}
	clear(room)
	run(t, m, 4, was[:4]...)
	if s := taken(m); s != "ab" {
		t.Errorf("%q", s)
	}
}

// P17.2: many events, of which most come in one run, in no order.
func TestEventsMany(t *testing.T) {
	var events []api.Event
	for n := range 100000 {
		events = append(events, api.Event{At: n * 7919 % 100000 / 2, Kind: n % 3, V: uint32(n)})
	}
	m := made(t, 2, api.Flags{}, "addiu $1,$1,1", "j 128", "addiu $2,$2,1")
	k := made(t, 2, api.Flags{}, "addiu $1,$1,1", "j 128", "addiu $2,$2,1")
	run(t, m, 60000, events...)
	slices.SortStableFunc(events, func(a, b api.Event) int { return a.At - b.At })
	c := k.Cpu()
	for n := range 60000 {
		for len(events) > 0 && events[0].At == n {
			k.Bus().Feed(events[0])
			events = events[1:]
		}
		cpu.Step(&c, k.Bus())
	}
	if m.Cpu() != c || m.Bus().Devices() != k.Bus().Devices() {
		t.Errorf("%+v, wanted\n%+v", m.Cpu(), c)
	}
}

// programs are such as the issue names: each goes on for ever.
func programs() map[string][]string {
	return map[string][]string{
		"plain":   append(many(60, "addiu $1,$1,1"), "j 128", "nor $2,$1,$1"),
		"loop":    {"addiu $1,$0,100", "ori $2,$1,7", "sll $3,$2,2", "xor $4,$3,$1", "bne $1,$0,-4", "addiu $1,$1,-1", "j 128", "sltu $6,$5,$4"},
		"stores":  {"lui $5,32768", "addiu $1,$1,1", "sw $1,256($5)", "lw $2,256($5)", "sb $2,259($5)", "lhu $3,258($5)", "j 129", "addu $4,$4,$3"},
		"itself":  {"lui $5,32768", "lw $1,536($5)", "addiu $1,$1,1", "sw $1,536($5)", "addiu $2,$2,1", "addu $3,$2,$3", "addiu $4,$4,0", "j 129", "addiu $6,$6,1"},
		"calls":   {"syscall", "addiu $1,$1,1", "break", "add $2,$1,$1", "addi $3,$0,32767", "sll $3,$3,16", "add $3,$3,$3", "teq $0,$0", "lw $4,3($0)", "lw $4,0($0)", "j 128", "addiu $6,$6,1"},
		"devices": {"lui $5,48896", "lw $1,768($5)", "andi $2,$1,255", "sw $2,256($5)", "lw $3,256($5)", "sw $3,768($5)", "addu $4,$4,$1", "j 129", "lw $6,4($5)"},
		"timer":   {"lui $5,48896", "addiu $1,$0,13", "sw $1,0($5)", "addiu $2,$0,1025", "mtc0 $2,$12", "addiu $3,$3,1", "addiu $4,$4,1", "addu $6,$3,$4", "j 133", "xor $6,$6,$3"},
		"mover": slices.Concat(
			[]string{"lui $5,48896", "addiu $1,$0,576", "sw $1,512($5)", "addiu $2,$0,1", "addiu $3,$0,2", "sw $3,520($5)", "lui $7,32768"}, many(9, "addiu $4,$4,1"),
			many(6, "addiu $6,$6,1"), []string{"lw $8,576($7)", "addiu $8,$8,1", "sw $8,576($7)", "sw $2,520($5)"}, many(5, "addiu $6,$6,3"), []string{"j 129", "addiu $9,$9,1"}),
		"compare":  {"mfc0 $1,$9", "addiu $1,$1,9", "mtc0 $1,$11", "lui $2,0", "ori $2,$2,32769", "mtc0 $2,$12", "addiu $3,$3,1", "addiu $3,$3,1", "addiu $3,$3,1", "addiu $3,$3,1", "addiu $3,$3,1", "addiu $3,$3,1", "addiu $3,$3,1", "j 128", "mtc0 $0,$12"},
		"nothing":  {"lw $0,0($0)", "syscall"},
		"past all": {"lui $1,32768", "ori $1,$1,2032", "jr $1", "addiu $2,$2,1"},
	}
}

// handler lets all that rings be still, and goes on behind the instruction that raised, or at the one that was interrupted.
var handler = []string{"lui $26,48896", "sw $0,8($26)", "sw $0,524($26)", "lw $27,256($26)", "mtc0 $0,$11", "addiu $28,$28,1", "mfc0 $26,$13", "andi $26,$26,124", "mfc0 $27,$14", "beq $26,$0,2", "sll $0,$0,0", "addiu $27,$27,4", "mtc0 $27,$14", "eret"}

// withProgram lays a program, and the handler at both places where one begins. It is short enough to end ahead of where a processor does.
func withProgram(t *testing.T, room int, f api.Flags, lines []string) *Machine {
	t.Helper()
	m := made(t, room, f, lines...)
	lay(t, m.Bus(), 0, wordsOf(t, handler...))
	lay(t, m.Bus(), 0x180, wordsOf(t, handler...))
	return m
}

// P17.2, P17.3: each program, with any room and passes, with and without Flush, step by step, at once and in other goes, is held against cpu.Step, with events.
func TestPrograms(t *testing.T) {
	events := []api.Event{{At: 90, V: 65}, {At: 7, V: 66}, {At: 7, Kind: api.EventStir, V: 1 << 20}, {At: 8, V: 67}, {At: 599, V: 68}, {At: 600, V: 69}, {At: 300, Kind: api.EventStir, V: 9}, {At: 300, V: 1}, {At: 35, Kind: 7}}
	const steps = 600
	for name, lines := range programs() {
		isDone := 0
		for n, f := range allFlags() {
			for _, room := range []int{1, 64} {
				for _, most := range []int{1, 17, steps} {
					p := newPair(withProgram(t, room, f, lines), room)
					for left := steps; left > 0; {
						k := min(left, most)
						p.run(t, k, events)
						left -= k
						if n%2 == 1 && left%3 == 0 {
							p.m.Flush()
							p.o.row = nil
						}
					}
					isDone += p.m.Done()
				}
			}
		}
		if isDone == 0 {
			t.Errorf("%s: nothing was made in blocks", name)
		}
	}
}

// P17.2: what one machine makes another one with other room and passes makes, whatever goes both take.
func TestSameState(t *testing.T) {
	for name, lines := range programs() {
		want := withProgram(t, 1, api.Flags{}, lines)
		run(t, want, 1234)
		for n, f := range allFlags() {
			m := withProgram(t, 1+9*n, f, lines)
			for k := n; m.Count() < 1234; k++ {
				m.Run(min(k%40, 1234-m.Count()), nil)
			}
			if m.Cpu() != want.Cpu() || m.Rest() != want.Rest() || m.Bus().Memory().Image() != want.Bus().Memory().Image() {
				t.Errorf("%s, %+v: %+v, wanted\n%+v", name, f, m.Cpu(), want.Cpu())
			}
		}
	}
}

// P17.2: the processor's Count and the line of Compare go on within blocks; a timer rings in the midst of one, and is seen in Cause.
func TestRings(t *testing.T) {
	for every := range uint32(20) {
		m := made(t, 4, api.Flags{Dead: true}, many(40, "addiu $1,$1,1")...)
		m.Bus().Store(api.DevTimer, 4, every)
		c := m.Cpu()
		c.C.Compare = every
		m.Set(c)
		p := newPair(m, 4)
		for range 8 {
			p.run(t, 4, nil)
		}
		ring, _ := m.Bus().Load(api.DevTimer+8, 4)
		want := uint32(0)
		if every > 0 {
			want = 1<<10 + 1<<15
		}
		if got := m.Cpu().C; got.Count != 32 || got.Cause != want || (ring == 1) != (every > 0) {
			t.Errorf("%d: %+v, %d", every, got, ring)
		}
		holdBlocks(t, fmt.Sprint("every ", every), m, 8, 32)
	}
}

// R1: of a program that leads nowhere steps go on, and none is made in a block.
func TestNowhere(t *testing.T) {
	m := newMachine(t, 4, 1, api.Flags{})
	c := cpu.Reset()
	c.PC, c.Next = 0x80000400, 0x80000404 // behind memory; the handler's words are noughts, that are plain
	m.Set(c)
	p := newPair(m, 1)
	p.run(t, 1, nil)
	holdBlocks(t, "no memory", m, 0, 0)
	p.run(t, 500, nil)
	if m.Done() == 0 {
		t.Error("noughts are plain")
	}
}
