package store

import (
	"slices"
	"strings"

	"zoetrope/api"
)

const (
	leastPages = 4
	countLen   = 8
	sizeLen    = 2
	slotLen    = 2
)

// text tells where a text is: how many bytes it has, and its pieces' slots.
type text struct {
	size  int
	slots []int
}

type point struct {
	count int
	rest  text
	pages []int // slots
}

// catalog tells what is kept, and where.
type catalog struct {
	pages  int
	points []point // by rising counts
	end    int
	log    text
}

// number is a closure that is handed a number of so many bytes, to lay it or to set it.
type number func(v *int, size int)

// each hands on all numbers in the order in which they stand. It is one for laying and reading, so that these can't differ: lists are made as long as the numbers ahead of them tell, which they are already where they are laid.
func (c *catalog) each(hand number) {
	hand(&c.pages, 1)
	count := len(c.points)
	hand(&count, 1)
	c.points = ofLength(c.points, count)
	for i := range c.points {
		p := &c.points[i]
		hand(&p.count, countLen)
		p.rest.each(hand)
		p.pages = eachSlot(p.pages, c.pages, hand)
	}
	hand(&c.end, countLen)
	c.log.each(hand)
}

func (t *text) each(hand number) {
	hand(&t.size, sizeLen)
	t.slots = eachSlot(t.slots, piecesOf(t.size), hand)
}

func eachSlot(slots []int, count int, hand number) []int {
	slots = ofLength(slots, count)
	for i := range slots {
		hand(&slots[i], slotLen)
	}
	return slots
}

func ofLength[T any](row []T, count int) []T {
	if len(row) == count {
		return row
	}
	return make([]T, count)
}

// lay are the bytes of the numbers that are handed on.
func lay(each func(number)) string {
	var b []byte
	each(func(v *int, size int) {
		for i := range size {
			b = append(b, byte(*v>>(8*(size-1-i))))
		}
	})
	return string(b)
}

// read sets the numbers to those that bytes are, and tells how many bytes they have, also where there are not so many (then those that lack are noughts).
func read(s string, each func(number)) int {
	at := 0
	each(func(v *int, size int) {
		*v = 0
		for range size {
			*v <<= 8
			if at < len(s) {
				*v |= int(s[at])
			}
			at++
		}
	})
	return at
}

// last is the last point's count, or -1.
func (c *catalog) last() int {
	if len(c.points) == 0 {
		return -1
	}
	return c.points[len(c.points)-1].count
}

// find is the place of the point with a count, or -1.
func (c *catalog) find(count int) int {
	return slices.IndexFunc(c.points, func(p point) bool { return p.count == count })
}

// slots are all that it names, some of them more than once.
func (c *catalog) slots() []int {
	var all []int
	for _, p := range c.points {
		all = append(all, p.rest.slots...)
		all = append(all, p.pages...)
	}
	return append(all, c.log.slots...)
}

// may tells whether it may be one of a store that has so many slots.
func (c *catalog) may(slots int) bool {
	if !isPages(c.pages) || len(c.points) > api.MaxPoint || c.log.size > api.MaxLog {
		return false
	}
	last := -1
	for _, p := range c.points {
		if p.count <= last || p.rest.size > api.MaxRest {
			return false
		}
		last = p.count
	}
	return c.end >= max(last, 0) && c.end <= api.MaxCount && areThere(c.slots(), slots)
}

func isPages(n int) bool { return n >= leastPages && n <= api.MaxPages }

// areThere tells whether slots are some of so many.
func areThere(slots []int, count int) bool {
	return !slices.ContainsFunc(slots, func(k int) bool { return k >= count })
}

func piecesOf(size int) int { return (size + slotSize - 1) / slotSize }

// cut are pieces of a size, the last one filled with noughts.
func cut(s string, size int) []string {
	var pieces []string
	for at := 0; at < len(s); at += size {
		piece := make([]byte, size)
		copy(piece, s[at:])
		pieces = append(pieces, string(piece))
	}
	return pieces
}

func areNoughts(s string) bool { return strings.Trim(s, "\x00") == "" }
