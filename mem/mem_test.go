package mem

import (
	"encoding/binary"
	"math"
	"math/rand"
	"slices"
	"strings"
	"testing"

	"zoetrope/api"
)

// model is a memory told in the plainest way: one row of bytes, and the pages that were written.
type model struct {
	bytes []byte
	dirty map[int]bool
}

func newModel(pages int) *model {
	return &model{bytes: make([]byte, pages*256), dirty: map[int]bool{}}
}

func (o *model) fits(at uint32, size int) bool {
	switch size {
	case 1, 2, 4:
		return int(at)%size == 0 && int(at)+size <= len(o.bytes)
	}
	return false
}

func (o *model) load(at uint32, size int) (uint32, api.Errno) {
	if !o.fits(at, size) {
		return 0, api.ErrMemAt
	}
	switch size {
	case 1:
		return uint32(o.bytes[at]), api.OK
	case 2:
		return uint32(binary.BigEndian.Uint16(o.bytes[at:])), api.OK
	}
	return binary.BigEndian.Uint32(o.bytes[at:]), api.OK
}

func (o *model) store(at uint32, size int, v uint32) api.Errno {
	if !o.fits(at, size) {
		return api.ErrMemAt
	}
	switch size {
	case 1:
		o.bytes[at] = byte(v % (1 << 8))
	case 2:
		binary.BigEndian.PutUint16(o.bytes[at:], uint16(v%(1<<16)))
	case 4:
		binary.BigEndian.PutUint32(o.bytes[at:], v)
	}
	o.dirty[int(at)/256] = true
	return api.OK
}

func (o *model) put(n int, s string) api.Errno {
	if n < 0 || n >= len(o.bytes)/256 {
		return api.ErrMemAt
	}
	if len(s) != 256 {
		return api.ErrMemSize
	}
	copy(o.bytes[n*256:], s)
	o.dirty[n] = true
	return api.OK
}

func (o *model) clone() *model {
	c := newModel(len(o.bytes) / 256)
	copy(c.bytes, o.bytes)
	for n := range o.dirty {
		c.dirty[n] = true
	}
	return c
}

// hold holds all that a memory tells, but its numbers, against the model.
func (o *model) hold(t *testing.T, m *Memory) {
	t.Helper()
	if m.Pages() != len(o.bytes)/256 {
		t.Fatalf("Pages: %d", m.Pages())
	}
	if m.Image() != string(o.bytes) {
		t.Fatal("Image is another one")
	}
	var dirty []int
	for n := range m.Pages() {
		if s, err := m.Page(n); err != api.OK || s != string(o.bytes[n*256:n*256+256]) {
			t.Fatalf("Page(%d): %q, %d", n, s, err)
		}
		if o.dirty[n] {
			dirty = append(dirty, n)
		}
	}
	if !slices.Equal(m.Dirty(), dirty) {
		t.Fatalf("Dirty: %v, wanted %v", m.Dirty(), dirty)
	}
}

func made(t *testing.T, pages int) *Memory {
	t.Helper()
	m, err := New(pages)
	if m == nil || err != api.OK {
		t.Fatalf("New(%d): %v, %d", pages, m, err)
	}
	return m
}

// filled is a memory, and a model, whose bytes are all told apart from their neighbours; none is dirty.
func filled(t *testing.T, pages int) (*Memory, *model) {
	t.Helper()
	m, o := made(t, pages), newModel(pages)
	for i := range o.bytes {
		o.bytes[i] = byte(i*7 + i/256*13 + 1)
	}
	for n := range pages {
		if err := m.Put(n, string(o.bytes[n*256:n*256+256])); err != api.OK {
			t.Fatal(err)
		}
	}
	m.Clean()
	o.hold(t, m)
	return m, o
}

// edgeSizes are those that are sizes, and those that are none.
func edgeSizes() []int {
	return []int{1, 2, 4, 0, 3, 5, 6, 7, 8, 16, 64, 256, 257, 258, 260, -1, -2, -4, math.MaxInt, math.MinInt,
		1 << 32, 1<<32 + 1, 1<<32 + 2, 1<<32 + 4, -1<<32 + 4}
}

// edgePlaces are places at and around the ends of pages and of memories of so many pages, and of all places.
func edgePlaces(pages int) []uint32 {
	var list []uint32
	for _, from := range []int{4, 256, 512, pages*256 - 256, pages * 256, pages*256 + 256, 1 << 14, 1 << 16, 1 << 24, 1 << 31, 1 << 32} {
		for i := from - 5; i <= from+8; i++ {
			if i >= 0 && i < 1<<32 {
				list = append(list, uint32(i))
			}
		}
	}
	return append(list, 0)
}

func edgeValues() []uint32 {
	return []uint32{0, 1, 1<<8 - 1, 1 << 8, 1<<16 - 1, 1 << 16, 1<<24 - 1, 1 << 24, 1 << 31, 1<<32 - 1, 0x12345678}
}

// P6.1: 4 to 64 pages, all of them noughts, none of them dirty; nothing beside an error.
func TestNew(t *testing.T) {
	for pages := -3; pages <= 70; pages++ {
		m, err := New(pages)
		if pages < 4 || pages > 64 {
			if m != nil || err != api.ErrMemSize {
				t.Errorf("New(%d): %v, %d", pages, m, err)
			}
			continue
		}
		if err != api.OK {
			t.Fatalf("New(%d): %d", pages, err)
		}
		newModel(pages).hold(t, m)
	}
	for _, pages := range []int{math.MaxInt, math.MinInt, -64, 1 << 8, 1<<32 + 4, 1<<62 + 4} {
		if m, err := New(pages); m != nil || err != api.ErrMemSize {
			t.Errorf("New(%d): %v, %d", pages, m, err)
		}
	}
}

// P6.1: two memories have nothing in common.
func TestNewIsAnother(t *testing.T) {
	a, b := made(t, 4), made(t, 4)
	a.Store(0, 4, 1<<32-1)
	a.Put(3, strings.Repeat("x", 256))
	newModel(4).hold(t, b)
}

// P6.1, P6.2, P6.3: the numbers of the errors.
func TestErrorNumbers(t *testing.T) {
	m := made(t, 4)
	if _, err := New(3); err != 60 {
		t.Error(err)
	}
	if _, err := m.Load(0, 3); err != 61 {
		t.Error(err)
	}
	if err := m.Put(0, ""); err != 60 {
		t.Error(err)
	}
}

// P6.2: the chapter's example.
func TestExample(t *testing.T) {
	m := made(t, 4)
	if err := m.Store(254, 2, 0x1234); err != api.OK {
		t.Error(err)
	}
	if s, err := m.Page(0); err != api.OK || s != strings.Repeat("\x00", 254)+"\x12\x34" {
		t.Errorf("%q, %d", s, err)
	}
	if v, err := m.Load(254, 1); v != 0x12 || err != api.OK {
		t.Error(v, err)
	}
	if v, err := m.Load(255, 2); v != 0 || err != api.ErrMemAt {
		t.Error(v, err)
	}
	if v, err := m.Load(1024, 1); v != 0 || err != api.ErrMemAt {
		t.Error(v, err)
	}
}

// P6.2: the highest byte stands first, in each size, at the places 0 to 7.
func TestHighestByteFirst(t *testing.T) {
	for _, x := range []struct {
		at   uint32
		size int
		want uint32
	}{
		{0, 1, 0xf1}, {1, 1, 0x02}, {2, 1, 0x83}, {3, 1, 0x04}, {4, 1, 0xa5}, {5, 1, 0x06}, {6, 1, 0xc7}, {7, 1, 0x08},
		{0, 2, 0xf102}, {2, 2, 0x8304}, {4, 2, 0xa506}, {6, 2, 0xc708},
		{0, 4, 0xf1028304}, {4, 4, 0xa506c708},
	} {
		m := made(t, 4)
		m.Put(0, "\xf1\x02\x83\x04\xa5\x06\xc7\x08"+strings.Repeat("\x99", 248))
		if v, err := m.Load(x.at, x.size); v != x.want || err != api.OK {
			t.Errorf("Load(%d, %d): %#x, %d", x.at, x.size, v, err)
		}
		blank := made(t, 4)
		blank.Store(x.at, x.size, x.want)
		page, _ := m.Page(0)
		want := make([]byte, 256)
		copy(want[x.at:], page[x.at:int(x.at)+x.size])
		if s, _ := blank.Page(0); s != string(want) {
			t.Errorf("Store(%d, %d, %#x): % x", x.at, x.size, x.want, s[:8])
		}
	}
}

// P6.2: places of each size, those that are no multiple of it, and those that do not lie in the memory; sizes that are none. An error changes nothing, and Load changes nothing at all.
func TestPlaces(t *testing.T) {
	for _, pages := range []int{4, 5, 63, 64} {
		m, o := filled(t, pages)
		for _, at := range edgePlaces(pages) {
			for _, size := range edgeSizes() {
				v, err := m.Load(at, size)
				want, wantErr := o.load(at, size)
				if v != want || err != wantErr {
					t.Errorf("%d pages, Load(%d, %d): %#x, %d; wanted %#x, %d", pages, at, size, v, err, want, wantErr)
				}
			}
		}
		o.hold(t, m)
		for _, at := range edgePlaces(pages) {
			for _, size := range edgeSizes() {
				if o.fits(at, size) {
					continue
				}
				if err := m.Store(at, size, 0x5a5a5a5a); err != api.ErrMemAt {
					t.Errorf("%d pages, Store(%d, %d): %d", pages, at, size, err)
				}
			}
		}
		o.hold(t, m)
	}
}

// P6.2: at each place of a memory each size is stored, or is refused.
func TestStoreAtEachPlace(t *testing.T) {
	for at := uint32(0); at < 1032; at++ {
		for _, size := range []int{1, 2, 4} {
			m, o := made(t, 4), newModel(4)
			if err, want := m.Store(at, size, 0xa1b2c3d4), o.store(at, size, 0xa1b2c3d4); err != want {
				t.Fatalf("Store(%d, %d): %d, wanted %d", at, size, err, want)
			}
			o.hold(t, m)
		}
	}
}

// P6.2: of v stays what its bytes tell.
func TestStoreModulo(t *testing.T) {
	for _, v := range edgeValues() {
		for size, want := range map[int]uint64{1: uint64(v) % (1 << 8), 2: uint64(v) % (1 << 16), 4: uint64(v)} {
			for _, at := range []uint32{0, 4, 252, 256, 1020, uint32(256 - size), uint32(1024 - size)} {
				m, o := filled(t, 4)
				if err := m.Store(at, size, v); err != api.OK {
					t.Errorf("Store(%d, %d, %#x): %d", at, size, v, err)
				}
				if got, err := m.Load(at, size); uint64(got) != want || err != api.OK {
					t.Errorf("Store(%d, %d, %#x): %#x", at, size, v, got)
				}
				o.store(at, size, v)
				o.hold(t, m)
			}
		}
	}
}

// P6.2: a store of the bytes that stand there makes the page dirty, too, and that page alone.
func TestStoreOfTheSame(t *testing.T) {
	for _, size := range []int{1, 2, 4} {
		for n := range 4 {
			for _, at := range []uint32{uint32(n * 256), uint32(n*256 + 256 - size)} {
				m, o := filled(t, 4)
				v, _ := m.Load(at, size)
				if err := m.Store(at, size, v); err != api.OK {
					t.Error(err)
				}
				o.dirty[n] = true
				o.hold(t, m)
			}
		}
	}
}

// P6.3: texts of 256 bytes alone are put, to pages that are there; where there is no page that is told first. An error changes nothing.
func TestPut(t *testing.T) {
	for _, pages := range []int{4, 64} {
		for _, n := range []int{0, 1, 2, 3, pages - 1, pages, pages + 1, 63, 64, 256, -1, -2, -pages, 1 << 32, math.MaxInt, math.MinInt} {
			for _, size := range []int{0, 1, 255, 256, 257, 512, pages * 256} {
				m, o := filled(t, pages)
				s := strings.Repeat("\xfe\x00z", size)[:size]
				if err, want := m.Put(n, s), o.put(n, s); err != want {
					t.Errorf("%d pages, Put(%d, %d bytes): %d, wanted %d", pages, n, size, err, want)
				}
				o.hold(t, m)
			}
		}
	}
}

// P6.3: a page of any bytes; the same bytes make it dirty, too.
func TestPutAnyBytes(t *testing.T) {
	all := make([]byte, 256)
	for i := range all {
		all[i] = byte(i)
	}
	m, o := made(t, 4), newModel(4)
	for range 2 {
		if err := m.Put(2, string(all)); err != api.OK {
			t.Error(err)
		}
		o.put(2, string(all))
		o.hold(t, m)
		m.Clean()
		clear(o.dirty)
	}
}

// P6.3: there is no page below 0, and none behind the last one.
func TestPageNone(t *testing.T) {
	for _, pages := range []int{4, 63, 64} {
		m, o := filled(t, pages)
		for _, n := range []int{pages, pages + 1, 64, 256, -1, -2, -pages, 1 << 32, 1<<56 + 1, math.MaxInt, math.MinInt} {
			if s, err := m.Page(n); s != "" || err != api.ErrMemAt {
				t.Errorf("%d pages, Page(%d): %q, %d", pages, n, s, err)
			}
		}
		o.hold(t, m)
	}
}

// P6.3, P6.4: what Page and Image have told stays, whatever is written then.
func TestToldBytesStay(t *testing.T) {
	m, o := filled(t, 4)
	page, _ := m.Page(1)
	image := m.Image()
	for at := uint32(0); at < 1024; at += 4 {
		m.Store(at, 4, 0x11111111)
	}
	if page != string(o.bytes[256:512]) || image != string(o.bytes) {
		t.Error("what was told has become another one")
	}
}

// P6.4: dirty pages are told rising, each of them once, in whichever order they are written.
func TestDirtyRising(t *testing.T) {
	m := made(t, 64)
	for _, n := range []int{63, 5, 0, 62, 5, 9, 1, 63, 10} {
		m.Store(uint32(n*256+17), 1, 3)
	}
	m.Put(7, strings.Repeat("q", 256))
	if want := []int{0, 1, 5, 7, 9, 10, 62, 63}; !slices.Equal(m.Dirty(), want) {
		t.Error(m.Dirty())
	}
	for n := range 64 {
		m.Put(63-n, strings.Repeat("q", 256))
	}
	if list := m.Dirty(); len(list) != 64 || !slices.IsSorted(list) || list[0] != 0 || list[63] != 63 {
		t.Error(list)
	}
}

// P6.4, R4: what is told of the dirty pages is its owner's, and the room behind it.
func TestDirtyIsItsOwners(t *testing.T) {
	m, o := filled(t, 8)
	for _, n := range []int{1, 4, 6} {
		m.Store(uint32(n*256), 1, 0)
		o.store(uint32(n*256), 1, 0)
	}
	list, other := m.Dirty(), m.Dirty()
	for i := range list {
		list[i] = 2
	}
	_ = append(list[:1], 9, 9, 9, 9)
	if !slices.Equal(other, []int{1, 4, 6}) {
		t.Error(other)
	}
	o.hold(t, m)
	c := m.Clone()
	o.hold(t, c)
}

// P6.4: behind Clean no page is dirty, and the bytes are what they were.
func TestClean(t *testing.T) {
	m, o := filled(t, 4)
	for n := range 4 {
		m.Store(uint32(n*256+8), 2, 0xbeef)
		o.store(uint32(n*256+8), 2, 0xbeef)
	}
	o.hold(t, m)
	for range 2 {
		m.Clean()
		clear(o.dirty)
		if len(m.Dirty()) != 0 {
			t.Error(m.Dirty())
		}
		o.hold(t, m)
	}
	m.Store(1023, 1, 1)
	o.store(1023, 1, 1)
	o.hold(t, m)
}

// P6.4, R7: a clone and its original, and a clone's clone, are written to, put to and cleaned each for itself.
func TestCloneGoesItsOwnWay(t *testing.T) {
	for _, pages := range []int{4, 64} {
		m, o := filled(t, pages)
		m.Store(256, 4, 77)
		o.store(256, 4, 77)
		c, co := m.Clone(), o.clone()
		co.hold(t, c)
		d, do := c.Clone(), co.clone()

		c.Store(0, 4, 0x01020304)
		co.store(0, 4, 0x01020304)
		c.Put(pages-1, strings.Repeat("c", 256))
		co.put(pages-1, strings.Repeat("c", 256))
		o.hold(t, m)
		co.hold(t, c)
		do.hold(t, d)

		m.Store(512, 1, 9)
		o.store(512, 1, 9)
		m.Put(0, strings.Repeat("m", 256))
		o.put(0, strings.Repeat("m", 256))
		o.hold(t, m)
		co.hold(t, c)
		do.hold(t, d)

		c.Clean()
		clear(co.dirty)
		o.hold(t, m)
		co.hold(t, c)
		m.Clean()
		clear(o.dirty)
		o.hold(t, m)
		do.hold(t, d)
	}
}

// P6.5: what is stored by one size is loaded by any, and nothing else is another one.
func TestStoredIsLoaded(t *testing.T) {
	for _, at := range []uint32{0, 4, 252, 256, 508, 512, 1016, 1020} {
		for _, size := range []int{1, 2, 4} {
			for from := at; from < at+4; from += uint32(size) {
				for _, v := range edgeValues() {
					m, o := filled(t, 4)
					m.Store(from, size, v)
					o.store(from, size, v)
					for _, by := range []int{1, 2, 4} {
						for place := 0; place < 1024; place += by {
							got, err := m.Load(uint32(place), by)
							if want, _ := o.load(uint32(place), by); got != want || err != api.OK {
								t.Fatalf("Store(%d, %d, %#x), Load(%d, %d): %#x, wanted %#x", from, size, v, place, by, got, want)
							}
						}
					}
				}
			}
		}
	}
}

// P6.5: pages that are not dirty are what they were at the last Clean, whatever was called since.
func TestNotDirtyIsUnchanged(t *testing.T) {
	r := rand.New(rand.NewSource(65))
	m, _ := filled(t, 6)
	was := m.Image()
	for range 3000 {
		switch r.Intn(12) {
		case 0:
			m.Clean()
			was = m.Image()
		case 1:
			m.Put(r.Intn(8)-1, strings.Repeat(string(rune('a'+r.Intn(26))), 255+r.Intn(3)))
		case 2:
			m = m.Clone()
		default:
			m.Store(uint32(r.Intn(7*256)), r.Intn(6), r.Uint32())
		}
		now, dirty := m.Image(), m.Dirty()
		for n := range 6 {
			if !slices.Contains(dirty, n) && now[n*256:n*256+256] != was[n*256:n*256+256] {
				t.Fatalf("page %d is another one, and is not dirty", n)
			}
		}
	}
}

// P6.1 to P6.5: calls in many orders, on several memories side by side, each held against its model.
func TestManyOrders(t *testing.T) {
	r := rand.New(rand.NewSource(6))
	for range 40 {
		pages := []int{4, 5, 17, 64}[r.Intn(4)]
		list, models := []*Memory{made(t, pages)}, []*model{newModel(pages)}
		for range 150 {
			i := r.Intn(len(list))
			m, o := list[i], models[i]
			at := uint32(r.Intn(pages*256 + 16))
			if r.Intn(8) == 0 {
				at = r.Uint32()
			}
			size := []int{1, 2, 4, 1, 2, 4, 3, 0}[r.Intn(8)]
			switch r.Intn(8) {
			case 0:
				m.Clean()
				clear(o.dirty)
			case 1:
				n, s := r.Intn(pages+2)-1, strings.Repeat(string([]byte{byte(r.Intn(256))}), 256-r.Intn(2)*r.Intn(2))
				if err, want := m.Put(n, s), o.put(n, s); err != want {
					t.Fatalf("Put(%d, %d bytes): %d, wanted %d", n, len(s), err, want)
				}
			case 2:
				if len(list) < 5 {
					list, models = append(list, m.Clone()), append(models, o.clone())
				}
			case 3, 4:
				v, err := m.Load(at, size)
				if want, wantErr := o.load(at, size); v != want || err != wantErr {
					t.Fatalf("Load(%d, %d): %#x, %d; wanted %#x, %d", at, size, v, err, want, wantErr)
				}
			default:
				v := r.Uint32()
				if err, want := m.Store(at, size, v), o.store(at, size, v); err != want {
					t.Fatalf("Store(%d, %d): %d, wanted %d", at, size, err, want)
				}
			}
			for j := range list {
				models[j].hold(t, list[j])
			}
		}
	}
}
