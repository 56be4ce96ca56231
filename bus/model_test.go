package bus

import (
	"encoding/binary"
	"slices"
	"testing"

	"zoetrope/api"
)

// model is a plain reckoning of what a bus tells, of bytes and numbers alone: it calls no other package's functions.
type model struct {
	mem                  []byte
	dirty                []bool
	every, left          uint32
	timerRing            bool
	in, out              []byte
	on                   bool
	addr, num, busy, way uint32
	dmaRing              bool
	z                    [4]int64 // Re, Im, AddRe, AddIm
	disk                 []byte
}

func newModel(pages int) *model {
	return &model{mem: make([]byte, 256*pages), dirty: make([]bool, pages), z: [4]int64{0, 0, 12345, 6789}, disk: make([]byte, 1024)}
}

func (m *model) clone() *model {
	c := *m
	c.mem, c.dirty, c.in, c.out, c.disk = slices.Clone(m.mem), slices.Clone(m.dirty), slices.Clone(m.in), slices.Clone(m.out), slices.Clone(m.disk)
	return &c
}

// device is where an address's device begins, if it has one.
func device(at uint32) (uint32, bool) {
	for _, base := range []uint32{0x1f000000, 0x1f000100, 0x1f000200, 0x1f000300} {
		if at >= base && at-base < 256 {
			return base, true
		}
	}
	return 0, false
}

// mayBe tells whether there is a number of that size at that address.
func (m *model) mayBe(at uint32, size int) bool {
	if base, ok := device(at); ok {
		regs := map[uint32]uint32{0x1f000000: 3, 0x1f000100: 3, 0x1f000200: 4, 0x1f000300: 1}[base]
		return size == 4 && at%4 == 0 && (at-base)/4 < regs
	}
	return (size == 1 || size == 2 || size == 4) && uint64(at)%uint64(size) == 0 && uint64(at)+uint64(size) <= uint64(len(m.mem))
}

func (m *model) load(at uint32, size int) (uint32, api.Errno) {
	if !m.mayBe(at, size) {
		return 0, 121
	}
	if _, ok := device(at); ok {
		return m.read(at), 0
	}
	v := uint32(0)
	for _, c := range m.mem[at : int(at)+size] {
		v = v*256 + uint32(c)
	}
	return v, 0
}

func (m *model) read(at uint32) uint32 {
	switch at {
	case 0x1f000000:
		return m.every
	case 0x1f000004:
		return m.left
	case 0x1f000008:
		return uint32(bit(m.timerRing))
	case 0x1f000100:
		if len(m.in) == 0 {
			return 0
		}
		c := m.in[0]
		m.in = m.in[1:]
		return uint32(c)
	case 0x1f000104:
		return uint32(len(m.in))
	case 0x1f000108:
		return uint32(len(m.out))
	case 0x1f000200:
		return m.addr
	case 0x1f000204:
		return m.num
	case 0x1f000208:
		return m.way
	case 0x1f00020c:
		return m.busy
	}
	return m.next()
}

func (m *model) next() uint32 {
	re, im := m.z[0], m.z[1]
	m.setZ(re*re-im*im+m.z[2], 2*re*im+m.z[3])
	return uint32(m.z[0] + 65536*m.z[1])
}

func (m *model) setZ(re, im int64) {
	m.z[0], m.z[1] = (re%65521+65521)%65521, (im%65521+65521)%65521
}

func (m *model) stir(v uint32) { m.setZ(m.z[0]+int64(v&0xffff), m.z[1]+int64(v>>16)) }

func (m *model) store(at uint32, size int, v uint32) api.Errno {
	if !m.mayBe(at, size) {
		return 121
	}
	if _, ok := device(at); ok {
		m.write(at, v)
		return 0
	}
	for i := size - 1; i >= 0; i-- {
		m.mem[int(at)+i] = byte(v)
		v >>= 8
	}
	m.dirty[at/256] = true
	return 0
}

func (m *model) write(at, v uint32) {
	switch at {
	case 0x1f000000:
		m.every, m.left = v, v
	case 0x1f000004:
		m.left = v
	case 0x1f000008:
		m.timerRing = false
	case 0x1f000100:
		m.out = append(m.out, byte(v))
		if len(m.out) > 64 {
			m.out = m.out[1:]
		}
	case 0x1f000104:
		m.on = v%2 == 1
	case 0x1f000108:
		m.out = nil
	case 0x1f000200:
		m.addr = v
	case 0x1f000204:
		m.num = v
	case 0x1f000208:
		if m.busy == 0 && (v == 1 || v == 2) {
			m.way, m.busy = v, 10
		}
	case 0x1f00020c:
		m.dmaRing = false
	case 0x1f000300:
		m.stir(v)
	}
}

func (m *model) peek(at uint32) (uint32, bool) {
	if at%4 != 0 || uint64(at)+4 > uint64(len(m.mem)) {
		return 0, false
	}
	return binary.BigEndian.Uint32(m.mem[at:]), true
}

func (m *model) tick() uint32 {
	if m.every != 0 {
		if m.left > 1 {
			m.left--
		} else {
			m.left, m.timerRing = m.every, true
		}
	}
	if m.busy == 1 {
		m.move()
		m.way, m.dmaRing = 0, true
	}
	if m.busy > 0 {
		m.busy--
	}
	return uint32(bit(m.timerRing)) + 2*uint32(bit(m.on && len(m.in) > 0)) + 4*uint32(bit(m.dmaRing))
}

func (m *model) move() {
	if m.num > 15 || m.addr%64 != 0 || uint64(m.addr)+64 > uint64(len(m.mem)) {
		return
	}
	sector, bytes := m.disk[64*m.num:64*m.num+64], m.mem[m.addr:m.addr+64]
	switch m.way {
	case 1:
		copy(bytes, sector)
		m.dirty[m.addr/256] = true
	case 2:
		copy(sector, bytes)
	}
}

func (m *model) feed(e api.Event) api.Errno {
	switch {
	case e.Kind == 0 && len(m.in) < 16:
		m.in = append(m.in, byte(e.V))
	case e.Kind == 1:
		m.stir(e.V)
	case e.Kind != 0:
		return 120
	}
	return 0
}

func bit(yes bool) byte {
	if yes {
		return 1
	}
	return 0
}

func (m *model) text() string {
	b := []byte{}
	word := func(vs ...uint32) {
		for _, v := range vs {
			b = binary.BigEndian.AppendUint32(b, v)
		}
	}
	word(m.every, m.left)
	b = append(b, bit(m.timerRing))
	word(m.addr, m.num, m.busy, m.way)
	b = append(b, bit(m.dmaRing))
	for _, v := range m.z {
		word(uint32(v))
	}
	b = append(b, m.disk...)
	b = append(b, bit(m.on), byte(len(m.in)))
	b = append(b, m.in...)
	b = append(b, byte(len(m.out)))
	return string(append(b, m.out...))
}

// isText tells the chapters' words of which bytes are a state of devices.
func isText(s string) bool {
	if len(s) < 1069 || s[8] > 1 || s[25] > 1 || s[1066] > 1 {
		return false
	}
	for i := range 4 {
		if binary.BigEndian.Uint32([]byte(s[26+4*i:])) > 65520 {
			return false
		}
	}
	in := int(s[1067])
	if in > 16 || len(s) < 1069+in {
		return false
	}
	out := int(s[1068+in])
	return out <= 64 && len(s) == 1069+in+out
}

func (m *model) set(s string) api.Errno {
	if !isText(s) {
		return 120
	}
	word := func(at int) uint32 { return binary.BigEndian.Uint32([]byte(s[at:])) }
	m.every, m.left, m.timerRing = word(0), word(4), s[8] == 1
	m.addr, m.num, m.busy, m.way, m.dmaRing = word(9), word(13), word(17), word(21), s[25] == 1
	for i := range m.z {
		m.z[i] = int64(word(26 + 4*i))
	}
	m.disk = []byte(s[42:1066])
	in := int(s[1067])
	m.on, m.in, m.out = s[1066] == 1, []byte(s[1068:1068+in]), []byte(s[1069+in:])
	return 0
}

func (m *model) dirtyPages() []int {
	list := []int{}
	for n, d := range m.dirty {
		if d {
			list = append(list, n)
		}
	}
	return list
}

// hold holds all that a bus tells without a change against the model.
func hold(t *testing.T, b *Bus, m *model) {
	t.Helper()
	if got, want := b.Devices(), m.text(); got != want {
		t.Fatalf("Devices:\n%q, wanted\n%q", got, want)
	}
	if want := (api.Dma{Addr: m.addr, Num: m.num, Busy: m.busy, Way: m.way, Ring: m.dmaRing}); b.Dma() != want {
		t.Fatalf("Dma: %+v, wanted %+v", b.Dma(), want)
	}
	if b.Memory().Image() != string(m.mem) {
		t.Fatal("another memory than wanted")
	}
	if got, want := b.Memory().Dirty(), m.dirtyPages(); !slices.Equal(got, want) {
		t.Fatalf("dirty pages %v, wanted %v", got, want)
	}
}

// pair is a bus, and what it should tell.
type pair struct {
	b *Bus
	m *model
}

func newPair(t *testing.T, pages int) pair {
	t.Helper()
	b, e := New(pages)
	if e != api.OK {
		t.Fatalf("New(%d): %d", pages, e)
	}
	return pair{b, newModel(pages)}
}

func (p pair) clone() pair { return pair{p.b.Clone(), p.m.clone()} }

func (p pair) hold(t *testing.T) {
	t.Helper()
	hold(t, p.b, p.m)
}

func (p pair) load(t *testing.T, at uint32, size int) uint32 {
	t.Helper()
	want, wantErr := p.m.load(at, size)
	v, e := p.b.Load(at, size)
	if v != want || e != wantErr {
		t.Fatalf("Load(%#x, %d): %#x, %d; wanted %#x, %d", at, size, v, e, want, wantErr)
	}
	return v
}

func (p pair) store(t *testing.T, at uint32, size int, v uint32) {
	t.Helper()
	want := p.m.store(at, size, v)
	if e := p.b.Store(at, size, v); e != want {
		t.Fatalf("Store(%#x, %d, %#x): %d; wanted %d", at, size, v, e, want)
	}
}

func (p pair) peek(t *testing.T, at uint32) {
	t.Helper()
	want, wantOK := p.m.peek(at)
	if v, ok := p.b.Peek(at); v != want || ok != wantOK {
		t.Fatalf("Peek(%#x): %#x, %v; wanted %#x, %v", at, v, ok, want, wantOK)
	}
}

func (p pair) tick(t *testing.T) uint32 {
	t.Helper()
	want := p.m.tick()
	lines := p.b.Tick()
	if lines != want {
		t.Fatalf("Tick: %d; wanted %d", lines, want)
	}
	return lines
}

func (p pair) feed(t *testing.T, e api.Event) {
	t.Helper()
	want := p.m.feed(e)
	if got := p.b.Feed(e); got != want {
		t.Fatalf("Feed(%+v): %d; wanted %d", e, got, want)
	}
}

func (p pair) set(t *testing.T, s string) {
	t.Helper()
	want := p.m.set(s)
	if e := p.b.Set(s); e != want {
		t.Fatalf("Set(%q): %d; wanted %d", s, e, want)
	}
}
