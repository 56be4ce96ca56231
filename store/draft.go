package store

import (
	"slices"
	"strings"

	"zoetrope/api"
)

// mostNames is how many slots the root has room for.
const mostNames = (api.Sector - sizeLen) / slotLen

// row are pieces, and the slots in which they stand.
type row struct {
	pieces []string
	slots  []int
}

// draft is a catalog that is to be kept: it names slots in which its new pieces don't stand yet.
type draft struct {
	catalog
	words string   // the log's
	fresh []string // the new pieces: they are to stand in the first free slots, in order
	free  []int    // rising
}

// draft is one of what is kept already.
func (s *Store) draft() draft {
	next := draft{catalog: s.catalog, words: s.words}
	next.points = slices.Clone(s.points)
	used := s.used()
	for k := range slotsOf(s.sectors) {
		if _, is := used[k]; !is {
			next.free = append(next.free, k)
		}
	}
	return next
}

func (n *draft) putPoint(p api.Point, last row) {
	rest := text{len(p.Rest), n.put(cut(p.Rest, slotSize), row{})}
	n.points = append(n.points, point{p.Count, rest, n.put(p.Pages, last)})
}

func (n *draft) putLog(log string, end int) {
	old := row{cut(n.words, slotSize), n.log.slots}
	n.log = text{len(log), n.put(cut(log, slotSize), old)}
	n.words, n.end = strings.Clone(log), end
}

// put tells the slots of pieces: those that are the same as the old ones at their places have these's, the others fresh ones.
func (n *draft) put(pieces []string, old row) []int {
	slots := make([]int, len(pieces))
	for i, s := range pieces {
		if i < len(old.pieces) && s == old.pieces[i] {
			slots[i] = old.slots[i]
		} else {
			slots[i] = n.freshSlot(s)
		}
	}
	return slots
}

// freshSlot is the least free slot, or any number if there is none: the draft has no room then.
func (n *draft) freshSlot(piece string) int {
	n.fresh = append(n.fresh, piece)
	if !n.hasRoom() {
		return 0
	}
	return n.free[len(n.fresh)-1]
}

func (n *draft) hasRoom() bool { return len(n.fresh) <= len(n.free) }

// keep lays a draft's fresh pieces, where nothing stands, and names its catalog in the root behind them: so the old one is whole up to then.
func (s *Store) keep(next draft) api.Errno {
	bytes := lay(next.catalog.each)
	root := text{len(bytes), next.put(cut(bytes, slotSize), row{})}
	if !next.hasRoom() || len(root.slots) > mostNames {
		return api.ErrStoreFull
	}
	for i, piece := range next.fresh {
		if err := s.commit(sectorOf(next.free[i]), piece); err != api.OK {
			return err
		}
	}
	if err := s.commit(rootAt, lay(root.each)); err != api.OK {
		return err
	}
	s.catalog, s.root, s.words = next.catalog, root, next.words
	return api.OK
}

// commit changes the sectors from one on, in one go.
func (s *Store) commit(at int, bytes string) api.Errno {
	var cells []api.Cell
	for i, sector := range cut(bytes, api.Sector) {
		cells = append(cells, api.Cell{N: at + i, S: sector})
	}
	err := s.sectors.Commit(cells)
	if err == api.ErrWalFull {
		return api.ErrStoreFull
	}
	return err
}
