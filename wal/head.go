package wal

import (
	"zoetrope/api"
	"zoetrope/crc"
)

// A head's bytes.
const (
	mark      = "ZW"
	numberLen = 4
	countLen  = 1
	placeLen  = 2
	sumLen    = 2
	againAt   = 58 // the number again, so that a torn head does not have it twice
)

// head tells of a change which cells it has; their bytes are in its room.
type head struct {
	number int
	places []int
	sum    uint16
}

func headOf(number int, cells []api.Cell) head {
	return head{number: number, places: placesOf(cells), sum: sumOf(cells)}
}

func placesOf(cells []api.Cell) []int {
	places := make([]int, len(cells))
	for i, c := range cells {
		places[i] = c.N
	}
	return places
}

// side is which of the heads, and of the rooms, the change has.
func (h head) side() int { return h.number % sides }

func (h head) roomAt() int { return sides + h.side()*maxCells }

// rise tells whether places are sectors of so many, rising.
func rise(places []int, own int) bool {
	last := -1
	for _, n := range places {
		if n <= last || n >= own {
			return false
		}
		last = n
	}
	return true
}

func (h head) text() string {
	b := []byte(mark)
	put := func(v, size int) {
		for i := range size {
			b = append(b, byte(v>>(8*(size-1-i))))
		}
	}
	put(h.number, numberLen)
	put(len(h.places), countLen)
	for _, n := range h.places {
		put(n, placeLen)
	}
	put(0, placeLen*(maxCells-len(h.places)))
	put(int(h.sum), sumLen)
	put(0, againAt-len(b))
	put(h.number, numberLen)
	return crc.Seal(string(b))
}

// parseHead is the right head that a sector's bytes are, at a place, of a log with so many sectors.
func parseHead(s string, place, own int) (head, bool) {
	at := len(mark)
	take := func(size int) int {
		v := 0
		for range size {
			v = v<<8 | int(s[at])
			at++
		}
		return v
	}
	h := head{number: take(numberLen)}
	count := take(countLen)
	if h.side() != place || count > maxCells {
		return head{}, false
	}
	for range count {
		h.places = append(h.places, take(placeLen))
	}
	at += placeLen * (maxCells - count)
	h.sum = uint16(take(sumLen))
	// Laid again it tells all that was not taken: the mark, the noughts, the number behind them and the seal.
	if !rise(h.places, own) || h.text() != s {
		return head{}, false
	}
	return h, true
}
