package tlb

import (
	"math"
	"math/rand"
	"testing"

	"zoetrope/api"
)

// The model tells the chapter's words by plain reckoning: a page's number is what 256 goes into an address.

func fits(e api.Entry, addr, space uint32) bool {
	return e.Hi/256 == addr/256 && (e.Lo%2 == 1 || e.Hi%256 == space%256)
}

func find(b api.Tlb, addr, space uint32) int {
	slot := -1
	for i := 7; i >= 0; i-- {
		if fits(b[i], addr, space) {
			slot = i
		}
	}
	return slot
}

func mapped(b api.Tlb, addr, space uint32, write bool) (uint32, int) {
	slot := find(b, addr, space)
	switch {
	case slot < 0:
		return 0, api.MapRefill
	case b[slot].Lo/2%2 == 0:
		return 0, api.MapInvalid
	case write && b[slot].Lo/4%2 == 0:
		return 0, api.MapModified
	}
	return b[slot].Lo/256*256 + addr%256, api.MapOK
}

// hold holds what a buffer tells of an address in a space against the model, and against what is wanted of the buffer itself.
func hold(t *testing.T, b api.Tlb, addr, space uint32) {
	t.Helper()
	was := b
	if slot, want := Find(b, addr, space), find(b, addr, space); slot != want {
		t.Fatalf("Find(%x, %#x, %#x): %d, wanted %d", b, addr, space, slot, want)
	}
	for _, write := range []bool{false, true} {
		phys, what := Map(b, addr, space, write)
		wantPhys, wantWhat := mapped(b, addr, space, write)
		if phys != wantPhys || what != wantWhat {
			t.Fatalf("Map(%x, %#x, %#x, %v): %#x, %d; wanted %#x, %d", b, addr, space, write, phys, what, wantPhys, wantWhat)
		}
	}
	if b != was {
		t.Fatalf("the buffer was %x, and is %x", was, b)
	}
}

// filled is a buffer whose entries are all told apart; its slots are of the pages 0x100500 to 0x100507, in the spaces 10 to 17, valid and dirty.
func filled() api.Tlb {
	var b api.Tlb
	for i := range b {
		b[i] = api.Entry{Hi: 0x10050000 + uint32(i)*0x101 + 10, Lo: 0x20060006 + uint32(i)*0x100}
	}
	return b
}

func noSlots() []int {
	return []int{-1, 8, -2, 9, 15, 16, 255, 256, -7, -8, math.MaxInt, math.MinInt, math.MaxInt32, math.MinInt32,
		1 << 32, 1<<32 + 1, 1<<32 + 7, -1 << 32, -1<<32 + 7, 1<<62 + 3}
}

func edgeWords() []uint32 {
	return []uint32{0, 1, 2, 0xff, 0x100, 0x101, 0x1ff, 0xff00, 0xffff, 1 << 16, 1 << 24, 1<<31 - 1, 1 << 31, 1<<31 + 1,
		1<<32 - 0x101, 1<<32 - 0x100, 1<<32 - 2, 1<<32 - 1}
}

func edgeSpaces() []uint32 {
	return []uint32{0, 1, 2, 127, 128, 254, 255, 256, 257, 511, 512, 1<<16 + 1, 1 << 31, 1<<31 + 255, 1<<32 - 256, 1<<32 - 1}
}

// edgePlaces are the first and the last place of the first pages and of the last ones, and of some between.
func edgePlaces() []uint32 {
	var list []uint32
	for _, page := range []uint32{0, 1, 2, 0xff, 0x100, 1<<16 - 1, 1 << 16, 1<<23 - 1, 1 << 23, 1<<24 - 2, 1<<24 - 1} {
		for _, place := range []uint32{0, 1, 0x34, 0x80, 254, 255} {
			list = append(list, page*256+place)
		}
	}
	return list
}

// P7.1: the error's number.
func TestErrorNumber(t *testing.T) {
	if _, err := Read(api.Tlb{}, 8); err != 70 {
		t.Error(err)
	}
	if _, err := Write(api.Tlb{}, -1, api.Entry{}); err != 70 {
		t.Error(err)
	}
}

// P7.1: each slot's entry, and no other one.
func TestRead(t *testing.T) {
	for i, b := range []api.Tlb{filled(), {}} {
		for slot := range 8 {
			if e, err := Read(b, slot); e != b[slot] || err != api.OK {
				t.Errorf("%d: Read(%d): %x, %d", i, slot, e, err)
			}
		}
	}
}

// P7.1: a buffer that Write has not made is read as it is, with bits of Lo that mean nothing.
func TestReadBitsThatMeanNothing(t *testing.T) {
	for slot := range 8 {
		for low := range uint32(256) {
			b := filled()
			b[slot].Lo = 0xabcdef00 + low
			if e, err := Read(b, slot); e != b[slot] || err != api.OK {
				t.Errorf("Read(%d) of Lo %x: %x, %d", slot, b[slot].Lo, e, err)
			}
		}
	}
}

// P7.1, R3: slots that are none; beside the error is nothing, and the buffer stays.
func TestNoSlot(t *testing.T) {
	for _, slot := range noSlots() {
		b := filled()
		if e, err := Read(b, slot); e != (api.Entry{}) || err != api.ErrTlbAt {
			t.Errorf("Read(%d): %x, %d", slot, e, err)
		}
		if u, err := Write(b, slot, api.Entry{Hi: 0x501, Lo: 0x1207}); u != (api.Tlb{}) || err != api.ErrTlbAt {
			t.Errorf("Write(%d): %x, %d", slot, u, err)
		}
		if b != filled() {
			t.Errorf("slot %d: the buffer is %x", slot, b)
		}
	}
}

// P7.1, P7.3: what is written is read, each of Lo's lowest bits set or not, but for those that mean nothing; other slots stay, and so does the buffer that was handed in.
func TestWrite(t *testing.T) {
	for _, from := range []api.Tlb{filled(), {}} {
		for slot := range 8 {
			for low := range uint32(256) {
				b := from
				e := api.Entry{Hi: 0xfedcba98, Lo: 0x89abcd00 + low}
				u, err := Write(b, slot, e)
				if err != api.OK || b != from {
					t.Fatalf("Write(%d, %x): %d, and %x is left", slot, e, err, b)
				}
				want := from
				want[slot] = api.Entry{Hi: 0xfedcba98, Lo: 0x89abcd00 + low%8}
				if u != want {
					t.Fatalf("Write(%d, %x): %x, wanted %x", slot, e, u, want)
				}
				if got, err := Read(u, slot); got != want[slot] || err != api.OK {
					t.Fatalf("Read(%d): %x, %d", slot, got, err)
				}
			}
		}
	}
}

// P7.1: Hi is kept whole, its lowest bits too, and of Lo the frame's number whole.
func TestWriteWords(t *testing.T) {
	for _, hi := range edgeWords() {
		for _, lo := range edgeWords() {
			u, err := Write(filled(), 3, api.Entry{Hi: hi, Lo: lo})
			if err != api.OK || u[3] != (api.Entry{Hi: hi, Lo: lo/256*256 + lo%8}) {
				t.Errorf("Write of %x, %x: %x, %d", hi, lo, u[3], err)
			}
		}
	}
}

// P7.1: bits that mean nothing stay in the slots that are not written.
func TestWriteLeavesOthers(t *testing.T) {
	var b api.Tlb
	for i := range b {
		b[i] = api.Entry{Hi: uint32(i), Lo: 1<<32 - 1}
	}
	for slot := range 8 {
		want := b
		want[slot] = api.Entry{Hi: 77, Lo: 7}
		if u, err := Write(b, slot, api.Entry{Hi: 77, Lo: 7}); u != want || err != api.OK {
			t.Errorf("Write(%d): %x, %d", slot, u, err)
		}
	}
}

// P7.1: buffers that were made of one another go their own ways.
func TestWriteIsAnother(t *testing.T) {
	a := filled()
	b, _ := Write(a, 0, api.Entry{Hi: 1, Lo: 2})
	c, _ := Write(b, 7, api.Entry{Hi: 3, Lo: 4})
	d, _ := Write(b, 0, a[0])
	if a != filled() || d != a {
		t.Errorf("%x, %x", a, d)
	}
	if b[0] != (api.Entry{Hi: 1, Lo: 2}) || b[7] != a[7] || c[0] != b[0] || c[7] != (api.Entry{Hi: 3, Lo: 4}) {
		t.Errorf("%x, %x", b, c)
	}
}

// P7.2: the chapter's example.
func TestExample(t *testing.T) {
	b, err := Write(api.Tlb{}, 0, api.Entry{Hi: 0x00000500, Lo: 0x00001206})
	if err != api.OK {
		t.Fatal(err)
	}
	if phys, what := Map(b, 0x00000534, 0, false); phys != 0x00001234 || what != api.MapOK {
		t.Errorf("%#x, %d", phys, what)
	}
	if phys, what := Map(b, 0x00000534, 1, false); phys != 0 || what != api.MapRefill {
		t.Errorf("%#x, %d", phys, what)
	}
	if slot := Find(b, 0x00000534, 0); slot != 0 {
		t.Error(slot)
	}
	if slot := Find(b, 0x00000534, 1); slot != -1 {
		t.Error(slot)
	}
}

// P7.2: each slot is found by its own page and space, and leads to its own frame.
func TestEachSlot(t *testing.T) {
	b := filled()
	for slot := range 8 {
		addr, space := 0x10050077+uint32(slot)*256, uint32(slot)+10
		if got := Find(b, addr, space); got != slot {
			t.Errorf("Find(%#x, %d): %d", addr, space, got)
		}
		for _, write := range []bool{false, true} {
			if phys, what := Map(b, addr, space, write); phys != 0x20060077+uint32(slot)*256 || what != api.MapOK {
				t.Errorf("Map(%#x, %d, %v): %#x, %d", addr, space, write, phys, what)
			}
		}
		if got := Find(b, addr, space+1); got != -1 {
			t.Errorf("Find(%#x, %d): %d", addr, space+1, got)
		}
	}
}

// P7.2: each bit of a page's number counts, no bit of the place in it does.
func TestBitsOfPage(t *testing.T) {
	for _, lo := range []uint32{0x1206, 0x1207} {
		for slot := range 8 {
			b := filled()
			b[slot] = api.Entry{Hi: 0x5a3c9905, Lo: lo}
			for bit := range 32 {
				want := slot
				if bit >= 8 {
					want = -1
				}
				addr := uint32(0x5a3c9942) ^ 1<<bit
				if got := Find(b, addr, 5); got != want {
					t.Errorf("Lo %x, bit %d: Find tells %d, wanted %d", lo, bit, got, want)
				}
				hold(t, b, addr, 5)
			}
		}
	}
}

// P7.2: of a space the lowest 8 bits count, each of them, and no other one; none of them, if the entry is global.
func TestBitsOfSpace(t *testing.T) {
	for slot := range 8 {
		for bit := range 32 {
			b := filled()
			b[slot] = api.Entry{Hi: 0x000005a6, Lo: 0x1206}
			want := slot
			if bit < 8 {
				want = -1
			}
			if got := Find(b, 0x500, 0xa6^1<<bit); got != want {
				t.Errorf("bit %d: Find tells %d, wanted %d", bit, got, want)
			}
			hold(t, b, 0x500, 0xa6^1<<bit)
			b[slot].Lo |= 1
			if got := Find(b, 0x500, 0xa6^1<<bit); got != slot {
				t.Errorf("bit %d, global: Find tells %d, wanted %d", bit, got, slot)
			}
			hold(t, b, 0x500, 0xa6^1<<bit)
		}
	}
}

// P7.2: global or not, valid or not, dirty or not, in its own space or in another one, read or written: all together; and none of the bits that mean nothing counts.
func TestFlags(t *testing.T) {
	for low := range uint32(256) {
		for _, space := range []uint32{9, 10, 9 + 256} {
			for _, write := range []bool{false, true} {
				b := filled()
				b[4] = api.Entry{Hi: 0x00000509, Lo: 0x00001200 + low}
				phys, what := uint32(0), api.MapRefill
				if space != 10 || low&1 == 1 {
					switch {
					case low&2 == 0:
						what = api.MapInvalid
					case write && low&4 == 0:
						what = api.MapModified
					default:
						phys, what = 0x1234, api.MapOK
					}
				}
				if gotPhys, got := Map(b, 0x534, space, write); gotPhys != phys || got != what {
					t.Errorf("Lo %x, space %d, write %v: %#x, %d; wanted %#x, %d", low, space, write, gotPhys, got, phys, what)
				}
			}
		}
	}
}

// P7.2: of slots that fit the least is found, whichever they are; what is in the others does not count.
func TestLeastSlot(t *testing.T) {
	for set := range 256 {
		for _, flags := range []uint32{0, 1, 2, 3, 4, 5, 6, 7} {
			b, want := filled(), -1
			for slot := 7; slot >= 0; slot-- {
				if set>>slot&1 == 1 {
					// All but the least one that fits may be valid and dirty: they are not asked.
					if want >= 0 {
						b[want].Lo |= 6
					}
					b[slot] = api.Entry{Hi: 0x00000509, Lo: uint32(slot)<<8 + flags}
					want = slot
				}
			}
			if got := Find(b, 0x512, 9); got != want {
				t.Fatalf("slots %b: %d, wanted %d", set, got, want)
			}
			hold(t, b, 0x512, 9)
			hold(t, b, 0x512, 8)
		}
	}
}

// P7.2: a global entry behind one of the same space, and the other way round: the least slot, not the nearer kind.
func TestLeastSlotOfKinds(t *testing.T) {
	own, all, other := api.Entry{Hi: 0x509, Lo: 0x1206}, api.Entry{Hi: 0x507, Lo: 0x1307}, api.Entry{Hi: 0x508, Lo: 0x1406}
	for _, x := range []struct {
		first, second api.Entry
		slot          int
		phys          uint32
	}{{own, all, 2, 0x1201}, {all, own, 2, 0x1301}, {other, own, 6, 0x1201}, {other, all, 6, 0x1301}} {
		b := filled()
		b[2], b[6] = x.first, x.second
		if slot := Find(b, 0x501, 9); slot != x.slot {
			t.Errorf("%x: %d", x, slot)
		}
		if phys, what := Map(b, 0x501, 9, true); phys != x.phys || what != api.MapOK {
			t.Errorf("%x: %#x, %d", x, phys, what)
		}
	}
}

// P7.2: an entry of noughts is one of page 0 in space 0, and not valid.
func TestNoughts(t *testing.T) {
	var b api.Tlb
	for _, x := range []struct {
		addr, space uint32
		slot, what  int
	}{
		{0, 0, 0, api.MapInvalid}, {255, 0, 0, api.MapInvalid}, {255, 256, 0, api.MapInvalid}, {0, 1<<32 - 256, 0, api.MapInvalid},
		{0, 1, -1, api.MapRefill}, {0, 255, -1, api.MapRefill}, {256, 0, -1, api.MapRefill}, {1<<32 - 1, 0, -1, api.MapRefill},
	} {
		if slot := Find(b, x.addr, x.space); slot != x.slot {
			t.Errorf("Find(%#x, %#x): %d", x.addr, x.space, slot)
		}
		for _, write := range []bool{false, true} {
			if phys, what := Map(b, x.addr, x.space, write); phys != 0 || what != x.what {
				t.Errorf("Map(%#x, %#x, %v): %#x, %d", x.addr, x.space, write, phys, what)
			}
		}
	}
	b[0].Hi = 1
	if slot := Find(b, 0, 0); slot != 1 {
		t.Error(slot)
	}
}

// P7.2: the first and the last place of the first and the last pages, to and from the first and the last frames, in each of the spaces.
func TestEdges(t *testing.T) {
	for _, page := range edgePlaces() {
		for _, own := range []uint32{0, 1, 255} {
			for _, lo := range []uint32{0x6, 0x7, 0x106, 0xffffff06, 0xffffff07, 0xfffffffe, 0x80000002, 0xfe} {
				b := filled()
				b[5] = api.Entry{Hi: page/256*256 + own, Lo: lo}
				for _, space := range edgeSpaces() {
					hold(t, b, page, space)
					hold(t, b, page/256*256, space)
					hold(t, b, page/256*256+255, space)
					hold(t, b, page/256*256+256, space)
					hold(t, b, page/256*256-1, space)
				}
			}
		}
	}
}

// P7.3: Map keeps the place in the page, and what may be written may be read, at the same place.
func TestMapKeepsPlace(t *testing.T) {
	for _, lo := range []uint32{0x6, 0x1206, 0xabcdef06, 0xffffff07, 0xabcdeffe} {
		b := filled()
		b[0] = api.Entry{Hi: 0xffffff01, Lo: lo}
		for place := range uint32(256) {
			phys, what := Map(b, 0xffffff00+place, 1, true)
			if phys != lo/256*256+place || what != api.MapOK {
				t.Errorf("Lo %x, place %d: %#x, %d", lo, place, phys, what)
			}
			if read, what := Map(b, 0xffffff00+place, 1, false); read != phys || what != api.MapOK {
				t.Errorf("Lo %x, place %d, read: %#x, %d", lo, place, read, what)
			}
		}
	}
}

// R5: asked again, and with other buffers asked between, the answer is the same one.
func TestOneAnswer(t *testing.T) {
	a, b := filled(), api.Tlb{}
	for range 3 {
		if phys, what := Map(a, 0x10050012, 10, true); phys != 0x20060012 || what != api.MapOK {
			t.Errorf("%#x, %d", phys, what)
		}
		if phys, what := Map(b, 0x10050012, 10, true); phys != 0 || what != api.MapRefill {
			t.Errorf("%#x, %d", phys, what)
		}
	}
}

// P7.1 to P7.3: rows of writes, also to slots that are none, each buffer held against a plain row of entries.
func TestManyOrders(t *testing.T) {
	r := rand.New(rand.NewSource(7))
	pages := []uint32{0, 0x500, 0x600, 0x80000500, 0xffffff00}
	spaces := edgeSpaces()
	for range 200 {
		var b, model api.Tlb
		for range 60 {
			e := api.Entry{Hi: pages[r.Intn(len(pages))] + uint32(r.Intn(3)), Lo: r.Uint32()}
			slot := r.Intn(10) - 1
			u, err := Write(b, slot, e)
			if slot < 0 || slot > 7 {
				if u != (api.Tlb{}) || err != api.ErrTlbAt {
					t.Fatalf("Write(%d): %x, %d", slot, u, err)
				}
				continue
			}
			model[slot] = api.Entry{Hi: e.Hi, Lo: e.Lo/256*256 + e.Lo%8}
			if u != model || err != api.OK {
				t.Fatalf("Write(%d, %x): %x, %d; wanted %x", slot, e, u, err, model)
			}
			b = u
			for range 8 {
				addr := pages[r.Intn(len(pages))] + uint32(r.Intn(256))
				hold(t, b, addr, uint32(r.Intn(4)))
				hold(t, b, addr, spaces[r.Intn(len(spaces))])
			}
		}
	}
}

// P7.2, P7.3: buffers that Write has not made, with any bits.
func TestAnyBuffers(t *testing.T) {
	r := rand.New(rand.NewSource(73))
	for range 20000 {
		var b api.Tlb
		page, space := r.Uint32(), r.Uint32()
		for i := range b {
			b[i] = api.Entry{Hi: r.Uint32(), Lo: r.Uint32()}
			switch r.Intn(4) {
			case 0:
				b[i].Hi = page/256*256 + space%256
			case 1:
				b[i].Hi = page/256*256 + b[i].Hi%256
			case 2:
				b[i].Hi = b[i].Hi/256*256 + space%256
			}
		}
		hold(t, b, page, space)
		hold(t, b, r.Uint32(), r.Uint32())
		slot := r.Intn(8)
		hold(t, b, b[slot].Hi, b[slot].Hi)
		hold(t, b, b[slot].Hi, r.Uint32())
		written, phys := false, uint32(0)
		if p, what := Map(b, page, space, true); what == api.MapOK {
			written, phys = true, p
		}
		if p, what := Map(b, page, space, false); written && (what != api.MapOK || p != phys) || what == api.MapOK && p%256 != page%256 {
			t.Fatalf("Map(%x, %#x, %#x): %#x, %d", b, page, space, p, what)
		}
	}
}
