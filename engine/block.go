package engine

import (
	"slices"

	"zoetrope/api"
	"zoetrope/cp0"
	"zoetrope/cpu"
	"zoetrope/ir"
	"zoetrope/opt"
)

// The bits of Status that let interrupts be taken: the first is 1, the second 0.
const (
	enabled = 1 << iota
	raised
)

// doBlock makes at once as many steps as can be made in a block, at most so many (1 or more); or tells that the one that comes now can't be.
func (m *Machine) doBlock(most int) bool {
	most = m.aheadOfMove(most)
	place, ok := m.place()
	if most == 0 || !ok {
		return false
	}
	b, ok := m.block(place)
	if !ok {
		return false
	}
	m.do(b, min(most, len(b.Words)))
	return true
}

// aheadOfMove is how many of so many steps come ahead of the one with which the dma moves: that may be over the words of a block.
func (m *Machine) aheadOfMove(most int) int {
	busy := int(m.bus.Dma().Busy)
	if busy == 0 {
		return most
	}
	return min(most, busy-1)
}

// place is where the instruction that comes now stands on the bus, if the processor's state lets it be done in a block.
func (m *Machine) place() (uint32, bool) {
	c := &m.c
	isStraight := !c.Delay && c.Next == c.PC+wordSize && c.PC%wordSize == 0
	if !isStraight || c.C.Status&(enabled|raised) == enabled {
		return 0, false
	}
	place, code, _ := cpu.Where(c, c.PC, false)
	return place, code < 0
}

// block is the block of the plain instructions from a place on, translated if it must be; none, if the first of them is not plain or not there.
func (m *Machine) block(place uint32) (api.Block, bool) {
	row := m.row(place)
	if b, isThere := m.blocks.Get(place); isThere && isOf(b, row) {
		return b, true
	}
	plain := ir.Translate(row)
	if len(plain) == 0 {
		return api.Block{}, false
	}
	b := api.Block{PC: place, Words: row[:len(plain)], Ops: opt.All(plain, m.passes), Plain: plain}
	m.blocks.Put(b)
	m.made++
	return b, true
}

// row are memory's words from a place on, to the page's end: behind it an address may lead elsewhere. None, if the place is not in memory.
func (m *Machine) row(place uint32) []uint32 {
	row := make([]uint32, min(api.MaxBlock, (api.Page-place%api.Page)/wordSize))
	for n := range row {
		w, isThere := m.bus.Peek(place + wordSize*uint32(n))
		if !isThere {
			return nil
		}
		row[n] = w
	}
	return row
}

// isOf tells whether a block has all the plain instructions that a row of words at its place begins with, and these alone.
func isOf(b api.Block, row []uint32) bool {
	size := len(b.Words) // never more than the row has: both end where their page does
	if !slices.Equal(b.Words, row[:size]) {
		return false
	}
	// What ended the block may have become a plain instruction.
	return size == len(row) || len(ir.Translate(row[size:size+1])) == 0
}

// do makes so many steps of a block at once: what the processor's steps would do, one behind the other.
func (m *Machine) do(b api.Block, steps int) {
	m.c.R = registers(b, m.c.R, steps)
	for range steps {
		m.c.C = cp0.Tick(m.c.C, m.bus.Tick())
	}
	m.c.PC += wordSize * uint32(steps)
	m.c.Next = m.c.PC + wordSize
	m.count += steps
	m.done += steps
}

// registers are those behind so many instructions of a block. Passes keep what they are behind all of it alone, so a part is done as it was translated.
func registers(b api.Block, r [32]uint32, steps int) [32]uint32 {
	if steps == len(b.Words) {
		return ir.Run(b.Ops, r)
	}
	return ir.Until(b.Plain, r, steps)
}
