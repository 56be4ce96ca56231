package tcache

import (
	"slices"
	"testing"

	"zoetrope/api"
)

// P16.3: some blocks, a Drop, how many go, and which stay.
func TestDropTold(t *testing.T) {
	one := []api.Block{sized(8, 2)} // bytes 8 to 15
	three := []api.Block{sized(100, 2), sized(64, 1), sized(80, 3)}
	high := []api.Block{sized(top-3, 1), sized(top-11, 2), sized(0, 1)}
	beyond := []api.Block{sized(top-3, 3), sized(0, 2), sized(top, 1), sized(4, 1)}
	odd := []api.Block{sized(3, 1), sized(7, 1), sized(11, 2)} // 3 to 6, 7 to 10, 11 to 18
	within := []api.Block{sized(0, 16), sized(4, 2), sized(60, 4), sized(64, 1)}
	none := []api.Block{sized(8, 0), sized(0, 0), sized(top, 0)}
	for _, x := range []struct {
		what       string
		blocks     []api.Block
		from, size uint32
		want       int
		stay       []uint32
	}{
		{"no blocks", nil, 0, top, 0, nil},
		{"the first byte", one, 8, 1, 1, nil},
		{"the first word", one, 8, 4, 1, nil},
		{"one in the midst", one, 11, 1, 1, nil},
		{"two in the midst", one, 11, 2, 1, nil},
		{"the last word's first byte", one, 12, 1, 1, nil},
		{"the last byte", one, 15, 1, 1, nil},
		{"all of it", one, 8, 8, 1, nil},
		{"more than it", one, 0, 100, 1, nil},
		{"up to the first byte", one, 0, 9, 1, nil},
		{"from the last byte on", one, 15, 100, 1, nil},
		{"just ahead of it", one, 7, 1, 0, row(8)},
		{"all ahead of it", one, 0, 8, 0, row(8)},
		{"just behind it", one, 16, 1, 0, row(8)},
		{"all behind it", one, 16, top - 15, 0, row(8)},
		{"all behind it, and more than there is", one, 16, top, 0, row(8)},
		{"all behind it, and no more than a wrap round to it", one, 16, top - 6, 0, row(8)},
		{"far from it", one, 1 << 31, 1 << 31, 0, row(8)},
		{"no bytes ahead", one, 7, 0, 0, row(8)},
		{"no bytes at its beginning", one, 8, 0, 0, row(8)},
		{"no bytes in the midst", one, 12, 0, 0, row(8)},
		{"no bytes at its last one", one, 15, 0, 0, row(8)},
		{"no bytes at all", one, 0, 0, 0, row(8)},
		{"no bytes at the end", one, top, 0, 0, row(8)},
		{"all places but one", one, 0, top, 1, nil},
		{"all places but the first", one, 1, top, 1, nil},

		{"the oldest of three", three, 107, 1, 1, row(64, 80)},
		{"the one between", three, 67, 1, 1, row(100, 80)},
		{"the newest of three", three, 91, 1, 1, row(100, 64)},
		{"the two that touch it", three, 67, 14, 2, row(100)},
		{"the one that it meets, beside another one", three, 68, 13, 1, row(100, 64)},
		{"between all", three, 68, 12, 0, row(100, 64, 80)},
		{"two that are not side by side in age", three, 91, 10, 2, row(64)},
		{"all three", three, 67, 34, 3, nil},

		{"the last place", high, top, 1, 1, row(top-11, 0)},
		{"the last place, and beyond", high, top, 100, 1, row(top-11, 0)},
		{"the last place, and all others beyond", high, top, top, 1, row(top-11, 0)},
		{"the last but one", high, top - 4, 1, 1, row(top-3, 0)},
		{"both at the end", high, top - 4, 2, 2, row(0)},
		{"both at the end, and beyond", high, top - 4, top, 2, row(0)},
		{"the first place", high, 0, 1, 1, row(top-3, top-11)},
		{"all but the last place", high, 0, top - 3, 2, row(top - 3)},
		{"all", high, 0, top, 3, nil},

		{"words beyond the end are not asked", beyond, 0, 1, 1, row(top-3, top, 4)},
		{"nor behind them", beyond, 4, 4, 2, row(top-3, top)},
		{"nor far behind them", beyond, 8, top - 12, 0, row(top-3, 0, top, 4)},
		{"what stands up to the end is", beyond, top, 1, 2, row(0, 4)},
		{"just the one that is there", beyond, top - 3, 3, 1, row(0, top, 4)},

		{"at places of any kind, the first", odd, 6, 1, 1, row(7, 11)},
		{"at places of any kind, the second", odd, 7, 4, 1, row(3, 11)},
		{"at places of any kind, the first two", odd, 6, 2, 2, row(11)},
		{"at places of any kind, behind all", odd, 19, 1, 0, row(3, 7, 11)},
		{"at places of any kind, the last", odd, 18, 1, 1, row(3, 7)},

		{"words that are in several blocks", within, 8, 4, 2, row(60, 64)},
		{"the last word of the first block", within, 60, 1, 2, row(4, 64)},
		{"one behind the first block", within, 64, 1, 2, row(0, 4)},

		{"blocks without words", none, 0, top, 0, row(8, 0, top)},
		{"blocks without words, at their place", none, 8, 1, 0, row(8, 0, top)},
		{"blocks without words, at the end", none, top, top, 0, row(8, 0, top)},
	} {
		c := made(t, 64)
		for _, b := range x.blocks {
			c.Put(b)
		}
		if got := c.Drop(x.from, x.size); got != x.want || !slices.Equal(c.Places(), x.stay) {
			t.Errorf("%s: %d, %v, wanted %d, %v", x.what, got, c.Places(), x.want, x.stay)
		}
		for _, b := range x.blocks {
			if slices.Contains(x.stay, b.PC) {
				holdThere(t, c, b)
			} else {
				holdNone(t, c, b.PC)
			}
		}
		if got := c.Drop(x.from, x.size); got != 0 {
			t.Errorf("%s, again: %d", x.what, got)
		}
	}
}

// P16.3: all bytes from any on, around blocks of each size.
func TestDropAround(t *testing.T) {
	for count := range 18 {
		for _, pc := range row(20, 21, top-70, top-40, top-3, top) {
			for from := -6; from < 4*count+6; from++ {
				for _, size := range row(0, 1, 2, 3, 4, 5, 8, 100, top) {
					place := int(pc) + from
					if place > top {
						continue
					}
					b := sized(pc, count)
					c, o := made(t, 1), &model{room: 1}
					c.Put(b)
					o.put(b)
					got, want := c.Drop(uint32(place), size), o.drop(uint32(place), size)
					if got != want || len(c.Places()) != 1-want {
						t.Fatalf("%d words at %d, Drop(%d, %d): %d, wanted %d", count, pc, place, size, got, want)
					}
				}
			}
		}
	}
}

// P16.3: the room of those that went is free again; what stays keeps its age.
func TestDropMakesRoom(t *testing.T) {
	c := made(t, 4)
	for _, pc := range row(0, 16, 32, 48) {
		c.Put(sized(pc, 2))
	}
	if n := c.Drop(20, 13); n != 2 {
		t.Fatal(n)
	}
	holdPlaces(t, c, 0, 48)
	c.Put(sized(64, 1))
	c.Put(sized(16, 1))
	holdPlaces(t, c, 0, 48, 64, 16)
	holdThere(t, c, sized(16, 1))
	c.Put(sized(80, 1))
	holdPlaces(t, c, 48, 64, 16, 80)
}

// P16.3
func TestFlush(t *testing.T) {
	for _, room := range []int{1, 3, 64} {
		c := made(t, room)
		c.Flush()
		holdPlaces(t, c)
		for round := range 3 {
			for n := range room + 1 {
				c.Put(sized(uint32(n)*8, round))
			}
			if len(c.Places()) != room {
				t.Fatal(c.Places())
			}
			c.Flush()
			holdPlaces(t, c)
			for n := range room + 1 {
				holdNone(t, c, uint32(n)*8)
			}
			if n := c.Drop(0, top); n != 0 {
				t.Errorf("Drop behind Flush: %d", n)
			}
			c.Flush()
			holdPlaces(t, c)
			b := sized(8, 2)
			c.Put(b)
			holdPlaces(t, c, 8)
			holdThere(t, c, b)
		}
	}
}

// P16.2, P16.3: the chapter's examples.
func TestExamples(t *testing.T) {
	c := made(t, 2)
	for _, pc := range row(0, 8, 16) {
		c.Put(sized(pc, 2))
	}
	holdPlaces(t, c, 8, 16)
	if n := c.Drop(12, 1); n != 1 {
		t.Error(n)
	}
	holdPlaces(t, c, 16)
}
