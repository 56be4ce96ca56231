package tcache

import (
	"math/rand"
	"testing"

	"zoetrope/api"
)

// anyMicros are operations of any kind, also such as may not be.
func anyMicros(r *rand.Rand) []api.Micro {
	var l []api.Micro
	for range r.Intn(5) {
		l = append(l, api.Micro{Kind: r.Intn(40) - 10, Dst: r.Intn(50) - 9, A: r.Int(), B: -r.Int(), Imm: r.Uint32(), Count: r.Intn(30) - 5})
	}
	return l
}

// anyPlace is one of few, so that blocks meet, around 0, around the end of all places, or any.
func anyPlace(r *rand.Rand) uint32 {
	switch r.Intn(8) {
	case 0:
		return r.Uint32()
	case 1, 2:
		return top - uint32(r.Intn(60))
	}
	return uint32(r.Intn(120))
}

func anySize(r *rand.Rand) uint32 {
	switch r.Intn(12) {
	case 0:
		return r.Uint32()
	case 1:
		return top - uint32(r.Intn(100))
	}
	return uint32(r.Intn(12))
}

func anyBlock(r *rand.Rand) api.Block {
	b := api.Block{PC: anyPlace(r), Ops: anyMicros(r), Plain: anyMicros(r)}
	for range r.Intn(20) {
		b.Words = append(b.Words, r.Uint32())
	}
	return b
}

// P16.1 to P16.4: any order of calls, on two caches side by side, each held against a model of its own; what was put and what was told is spoilt at once.
func TestAnyCalls(t *testing.T) {
	r := rand.New(rand.NewSource(16))
	for range 300 {
		caches, models := [2]*Cache{}, [2]*model{}
		for n := range caches {
			room := 1 + r.Intn(64)
			if r.Intn(2) == 0 {
				room = 1 + r.Intn(4)
			}
			caches[n], models[n] = made(t, room), &model{room: room}
		}
		for range 150 {
			n := r.Intn(2)
			anyCall(t, r, caches[n], models[n])
			for n := range caches {
				models[n].hold(t, caches[n], anyPlace(r), anyPlace(r))
			}
		}
	}
}

func anyCall(t *testing.T, r *rand.Rand, c *Cache, o *model) {
	t.Helper()
	switch r.Intn(40) {
	case 0:
		c.Flush()
		o.row = nil
	case 1, 2, 3, 4, 5, 6:
		from, size := anyPlace(r), anySize(r)
		if got, want := c.Drop(from, size), o.drop(from, size); got != want {
			t.Fatalf("Drop(%d, %d): %d, wanted %d", from, size, got, want)
		}
	case 7, 8, 9, 10, 11, 12:
		b, _ := c.Get(anyPlace(r))
		spoil(b)
	default:
		b := anyBlock(r)
		c.Put(b)
		o.put(b)
		holdThere(t, c, b)
		if l := c.Places(); l[len(l)-1] != b.PC {
			t.Fatalf("Put at %d: %v", b.PC, l)
		}
		spoil(b)
	}
}

// P16.4: what was put last is there, until it is dropped, whatever else is asked.
func TestLastStays(t *testing.T) {
	r := rand.New(rand.NewSource(17))
	for _, room := range []int{1, 2, 64} {
		c := made(t, room)
		for range 2000 {
			b := anyBlock(r)
			c.Put(b)
			from, size := anyPlace(r), anySize(r)
			isMet := meets(b, from, size)
			c.Get(anyPlace(r))
			holdThere(t, c, b)
			c.Drop(from, size)
			if isMet {
				holdNone(t, c, b.PC)
			} else {
				holdThere(t, c, b)
			}
			holdFollows(t, c, room)
		}
	}
}

// R1: blocks with more words than any that is translated, also ones that would go far beyond the end.
func TestGreatBlocks(t *testing.T) {
	c := made(t, 2)
	great := api.Block{PC: 4096, Words: make([]uint32, 1<<20), Ops: make([]api.Micro, 1000), Plain: make([]api.Micro, 3)}
	c.Put(great)
	holdThere(t, c, great)
	end := great.PC + 4<<20
	if c.Drop(end, top) != 0 || c.Drop(0, 4096) != 0 {
		t.Error("dropped by what it has not")
	}
	if c.Drop(end-1, 1) != 1 {
		t.Error("the last byte")
	}
	great.PC = top - 100
	c.Put(great)
	if c.Drop(0, top-100) != 0 {
		t.Error("dropped by what is beyond the end")
	}
	if c.Drop(top-50, 1) != 1 {
		t.Error("in its midst")
	}
	holdPlaces(t, c)
}
