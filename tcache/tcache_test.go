package tcache

import (
	"math"
	"slices"
	"testing"

	"zoetrope/api"
)

const top = 1<<32 - 1

func made(t *testing.T, room int) *Cache {
	t.Helper()
	c, err := New(room)
	if c == nil || err != api.OK {
		t.Fatalf("New(%d): %v, %d", room, c, err)
	}
	return c
}

// sized is a block at a place with so many words, whose lists are all others.
func sized(pc uint32, count int) api.Block {
	b := api.Block{PC: pc}
	for n := range count {
		b.Words = append(b.Words, pc+uint32(n)*3+1)
		b.Ops = append(b.Ops, api.Micro{Kind: api.MicroSet, Dst: n%31 + 1, Imm: pc, Count: n + 1})
		b.Plain = append(b.Plain, api.Micro{Kind: api.MicroMove, Dst: 1, A: n % 32, Count: n + 1})
	}
	return b
}

func row(places ...uint32) []uint32 { return places }

func holdPlaces(t *testing.T, c *Cache, want ...uint32) {
	t.Helper()
	if !slices.Equal(c.Places(), want) {
		t.Fatalf("Places: %v, wanted %v", c.Places(), want)
	}
}

func holdThere(t *testing.T, c *Cache, want api.Block) {
	t.Helper()
	if got, is := c.Get(want.PC); !is || !same(got, want) {
		t.Fatalf("Get(%d): %+v, %v, wanted %+v", want.PC, got, is, want)
	}
}

// holdNone holds that at a place there is nothing, and nothing beside the false.
func holdNone(t *testing.T, c *Cache, places ...uint32) {
	t.Helper()
	for _, pc := range places {
		got, is := c.Get(pc)
		if is || !same(got, api.Block{}) {
			t.Fatalf("Get(%d): %+v, %v", pc, got, is)
		}
	}
}

// P16.1
func TestNew(t *testing.T) {
	for room := 1; room <= 64; room++ {
		c := made(t, room)
		holdPlaces(t, c)
		holdNone(t, c, 0, 1, 4, top)
		for n := range room {
			c.Put(sized(uint32(n)*4, 1))
		}
		if len(c.Places()) != room {
			t.Errorf("room %d: %v", room, c.Places())
		}
		c.Put(sized(top, 1))
		if l := c.Places(); len(l) != room || l[room-1] != top {
			t.Errorf("room %d, and one more: %v", room, l)
		}
	}
}

// P16.1
func TestNewWrong(t *testing.T) {
	wrong := []int{0, 65, -1, -2, -64, 66, 128, 256, 1000, math.MaxInt, math.MinInt, math.MaxInt32, math.MinInt32,
		1 << 8, 1<<8 + 1, 1<<16 + 1, 1 << 32, 1<<32 + 1, 1<<32 + 64, -1<<32 + 1, 1<<40 + 2}
	for _, room := range wrong {
		if c, err := New(room); c != nil || err != api.ErrCacheRoom {
			t.Errorf("New(%d): %v, %d", room, c, err)
		}
	}
	if api.ErrCacheRoom != 160 {
		t.Error("ErrCacheRoom", api.ErrCacheRoom)
	}
}

// P16.2
func TestPutGet(t *testing.T) {
	c := made(t, 8)
	all := []api.Block{sized(0x200, 3), sized(0, 16), sized(top, 1), sized(7, 0), sized(1<<31, 2)}
	for n, b := range all {
		c.Put(b)
		for _, x := range all[:n+1] {
			holdThere(t, c, x)
		}
		for _, x := range all[n+1:] {
			holdNone(t, c, x.PC)
		}
	}
	holdPlaces(t, c, 0x200, 0, top, 7, 1<<31)
	holdNone(t, c, 1, 4, 0x1ff, 0x201, 0x204, 0x208, 6, 8, top-1, 1<<31-1, 1<<31+4)
}

// P16.2: each list is one of its own, whichever are empty.
func TestPutLists(t *testing.T) {
	words, ops, plain := row(1, 2), []api.Micro{{Kind: api.MicroSet, Dst: 1}}, []api.Micro{{Count: 1}, {Count: 2}, {Count: 3}}
	c := made(t, 8)
	for n := range 8 {
		b := api.Block{PC: uint32(n)}
		if n&1 != 0 {
			b.Words = words
		}
		if n&2 != 0 {
			b.Ops = ops
		}
		if n&4 != 0 {
			b.Plain = plain
		}
		c.Put(b)
		holdThere(t, c, b)
	}
	c.Put(api.Block{PC: 1, Words: row(), Ops: []api.Micro{}, Plain: []api.Micro{}})
	holdThere(t, c, api.Block{PC: 1})
}

// P16.2: a block with a PC that is there already.
func TestPutAgain(t *testing.T) {
	c := made(t, 3)
	for _, pc := range row(0, 8, 16) {
		c.Put(sized(pc, 2))
	}
	anew := sized(0, 5)
	c.Put(anew)
	holdPlaces(t, c, 8, 16, 0)
	holdThere(t, c, anew)
	c.Put(sized(16, 1))
	holdPlaces(t, c, 8, 0, 16)
	c.Put(sized(16, 0))
	holdPlaces(t, c, 8, 0, 16)
	holdThere(t, c, sized(16, 0))
	holdThere(t, c, sized(8, 2))
	c.Put(sized(24, 1))
	holdPlaces(t, c, 0, 16, 24)
	holdThere(t, c, anew)
	holdNone(t, c, 8)
}

// P16.2: also while there is room.
func TestPutAgainWithRoom(t *testing.T) {
	c := made(t, 64)
	for _, pc := range row(4, 8, 4, 12, 8, 4) {
		c.Put(sized(pc, 1))
	}
	holdPlaces(t, c, 12, 8, 4)
}

// P16.2: the oldest goes, each time one.
func TestPutBeyond(t *testing.T) {
	for _, room := range []int{1, 2, 3, 63, 64} {
		c, o := made(t, room), &model{room: room}
		for n := range 3*room + 5 {
			b := sized(uint32(n)*7, n%17)
			c.Put(b)
			o.put(b)
			o.hold(t, c, uint32(n+1)*7, uint32(max(n-room, 0))*7)
			if n >= room {
				holdNone(t, c, uint32(n-room)*7)
			}
		}
	}
}

// P16.2: a look makes no block newer.
func TestGetKeepsAge(t *testing.T) {
	c := made(t, 2)
	c.Put(sized(0, 1))
	c.Put(sized(8, 1))
	for range 5 {
		holdThere(t, c, sized(0, 1))
		holdNone(t, c, 16)
		holdPlaces(t, c, 0, 8)
	}
	c.Put(sized(16, 1))
	holdPlaces(t, c, 8, 16)
}

// P16.2, P16.3, P16.4
func TestRoomOne(t *testing.T) {
	c := made(t, 1)
	for _, pc := range row(0, 4, 4, top, 0) {
		b := sized(pc, 2)
		c.Put(b)
		holdPlaces(t, c, pc)
		holdThere(t, c, b)
	}
	if n := c.Drop(8, 1); n != 0 {
		t.Error("Drop(8, 1):", n)
	}
	if n := c.Drop(7, 1); n != 1 {
		t.Error("Drop(7, 1):", n)
	}
	holdPlaces(t, c)
	holdNone(t, c, 0)
	c.Put(sized(4, 1))
	holdPlaces(t, c, 4)
}

// P16.2: what was put may be changed, with the room behind it.
func TestPutKeepsCopies(t *testing.T) {
	c := made(t, 2)
	words := append(make([]uint32, 0, 8), 1, 2, 3)
	ops := append(make([]api.Micro, 0, 8), api.Micro{Count: 1}, api.Micro{Count: 2})
	b := api.Block{PC: 4, Words: words, Ops: ops, Plain: ops} // one list for two
	was := copyOf(b)
	c.Put(b)
	for n := range words[:8] {
		words[:8][n] = 99
	}
	for n := range ops[:8] {
		ops[:8][n] = api.Micro{Kind: 5}
	}
	holdThere(t, c, was)
	got, _ := c.Get(4)
	spoil(got)
	holdThere(t, c, was)
}

// P16.2: what is handed in stays as it was, with the room behind it, whatever is called then.
func TestPutLeavesAlone(t *testing.T) {
	c := made(t, 1)
	words := []uint32{1, 2, 3, 4}
	ops, plain := []api.Micro{{Count: 1}, {Count: 2}}, []api.Micro{{Count: 3}, {Count: 4}}
	b := api.Block{PC: 4, Words: words[:2], Ops: ops[:1], Plain: plain[:1]}
	c.Put(b)
	got, _ := c.Get(4)
	spoil(got)
	c.Put(b)
	c.Put(sized(8, 3))
	c.Drop(0, top)
	c.Flush()
	if !slices.Equal(words, row(1, 2, 3, 4)) || ops[0].Count != 1 || ops[1].Count != 2 || plain[0].Count != 3 || plain[1].Count != 4 {
		t.Error(words, ops, plain)
	}
}

// spoil changes all of a block's lists, and the room behind them.
func spoil(b api.Block) {
	words, ops, plain := b.Words[:cap(b.Words)], b.Ops[:cap(b.Ops)], b.Plain[:cap(b.Plain)]
	for n := range words {
		words[n] = 0xdead
	}
	for n := range ops {
		ops[n] = api.Micro{Kind: -1, Count: 77}
	}
	for n := range plain {
		plain[n] = api.Micro{Kind: -2, Count: 78}
	}
}

// P16.2: what is told may be changed: neither what is kept nor what is told at another time changes, nor another list of the same answer.
func TestGetTellsCopies(t *testing.T) {
	c := made(t, 2)
	want := sized(4, 3)
	c.Put(want)
	first, _ := c.Get(4)
	second, _ := c.Get(4)
	spoil(first)
	if !same(second, want) {
		t.Errorf("told ahead of it: %+v", second)
	}
	holdThere(t, c, want)
	shared := []api.Micro{{Count: 1}}
	c.Put(api.Block{PC: 8, Ops: shared, Plain: shared})
	got, _ := c.Get(8)
	got.Ops[0].Count = 2
	if got.Plain[0].Count != 1 {
		t.Error("Ops and Plain are one list")
	}
	_ = append(got.Ops, api.Micro{Count: 9})
	holdThere(t, c, api.Block{PC: 8, Ops: shared, Plain: shared})
}

// P16.3: the row of places, too, is a copy.
func TestPlacesCopy(t *testing.T) {
	c := made(t, 4)
	c.Put(sized(0, 1))
	c.Put(sized(8, 1))
	first, second := c.Places(), c.Places()
	for n := range first[:cap(first)] {
		first[:cap(first)][n] = 77
	}
	holdPlaces(t, c, 0, 8)
	if !slices.Equal(second, row(0, 8)) {
		t.Error(second)
	}
	_ = append(second, 99)
	c.Put(sized(16, 1))
	holdPlaces(t, c, 0, 8, 16)
	c.Drop(0, 1)
	c.Put(sized(24, 1))
	if !slices.Equal(second, row(0, 8)) {
		t.Error("told ahead of it:", second)
	}
	told := c.Places()
	c.Flush()
	c.Put(sized(32, 1))
	if !slices.Equal(told, row(8, 16, 24)) {
		t.Error("told ahead of Flush:", told)
	}
}
