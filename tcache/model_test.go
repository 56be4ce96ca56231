package tcache

import (
	"maps"
	"slices"
	"testing"

	"zoetrope/api"
)

// model is a cache told in the plainest way: a row of blocks, the oldest first, and bytes that are gone over one by one.
type model struct {
	room int
	row  []api.Block
}

func (o *model) put(b api.Block) {
	var rest []api.Block
	for _, x := range o.row {
		if x.PC != b.PC {
			rest = append(rest, x)
		}
	}
	if len(rest) == o.room {
		rest = rest[1:]
	}
	o.row = append(rest, copyOf(b))
}

func (o *model) drop(from, size uint32) int {
	var rest []api.Block
	for _, b := range o.row {
		if !meets(b, from, size) {
			rest = append(rest, b)
		}
	}
	gone := len(o.row) - len(rest)
	o.row = rest
	return gone
}

// meets asks each byte of each word whether it is one of those from from on.
func meets(b api.Block, from, size uint32) bool {
	for n := range 4 * len(b.Words) {
		place := int(b.PC) + n
		if place < 1<<32 && place >= int(from) && place-int(from) < int(size) {
			return true
		}
	}
	return false
}

func (o *model) places() []uint32 {
	var l []uint32
	for _, b := range o.row {
		l = append(l, b.PC)
	}
	return l
}

func (o *model) get(pc uint32) (api.Block, bool) {
	for _, b := range o.row {
		if b.PC == pc {
			return b, true
		}
	}
	return api.Block{}, false
}

// hold holds all that a cache tells against the model: the places, their blocks, and that there is nothing at those places that are asked for beside them.
func (o *model) hold(t *testing.T, c *Cache, asked ...uint32) {
	t.Helper()
	places := o.places()
	if !slices.Equal(c.Places(), places) {
		t.Fatalf("Places: %v, wanted %v", c.Places(), places)
	}
	for _, pc := range append(asked, places...) {
		got, is := c.Get(pc)
		want, wantIs := o.get(pc)
		if is != wantIs || !same(got, want) {
			t.Fatalf("Get(%d): %+v, %v, wanted %+v, %v", pc, got, is, want, wantIs)
		}
	}
	holdFollows(t, c, o.room)
}

// holdFollows holds the first half of P16.4.
func holdFollows(t *testing.T, c *Cache, room int) {
	t.Helper()
	places := c.Places()
	once := map[uint32]int{}
	for _, pc := range places {
		once[pc]++
		if b, is := c.Get(pc); !is || b.PC != pc {
			t.Fatalf("Get(%d), one of Places: %+v, %v", pc, b, is)
		}
	}
	if len(places) > room || len(once) != len(places) {
		t.Fatalf("in a room of %d: %v", room, slices.Sorted(maps.Keys(once)))
	}
}

// same tells whether two blocks are; a nil list and an empty one are.
func same(a, b api.Block) bool {
	return a.PC == b.PC && slices.Equal(a.Words, b.Words) && slices.Equal(a.Ops, b.Ops) && slices.Equal(a.Plain, b.Plain)
}

func copyOf(b api.Block) api.Block {
	return api.Block{
		PC:    b.PC,
		Words: append([]uint32{}, b.Words...),
		Ops:   append([]api.Micro{}, b.Ops...),
		Plain: append([]api.Micro{}, b.Plain...),
	}
}
