package bus

import (
	"math"
	"math/rand"
	"slices"
	"strings"
	"testing"

	"zoetrope/api"
)

const top = 1<<32 - 1

// noughts is a text of so many of them.
func noughts(n int) string { return strings.Repeat("\x00", n) }

func bases() []uint32 {
	return []uint32{api.DevTimer, api.DevUart, api.DevDma, api.DevRng}
}

func sizes() []int {
	return []int{math.MinInt, -1 << 32, -8, -4, -3, -2, -1, 0, 1, 2, 3, 4, 5, 6, 7, 8, 16, 256, 1 << 32, 1<<32 + 1, 1<<32 + 4, math.MaxInt}
}

func someWords() []uint32 {
	ws := []uint32{0, 3, 10, 15, 63, 65, 255, 257, 0x141, 65520, 65521, 65535, 0x01020304, 0x7fffffff, 0xfff0ffff, top - 63, top - 3, top}
	for n := range 32 {
		ws = append(ws, 1<<n)
	}
	return ws
}

// anyWord is of any length.
func anyWord(r *rand.Rand) uint32 { return r.Uint32() >> r.Intn(33) }

func anyBytes(r *rand.Rand, n int) string {
	b := make([]byte, n)
	r.Read(b)
	return string(b)
}

// anyDevices is a text of a state: of any kind, also of those that no calls would lead to.
func anyDevices(r *rand.Rand) string {
	m := newModel(4)
	m.every, m.left, m.timerRing = anyWord(r), anyWord(r), r.Intn(2) == 1
	m.addr, m.num, m.dmaRing = anyWord(r), anyWord(r), r.Intn(2) == 1
	if r.Intn(3) > 0 {
		m.addr, m.num = 64*uint32(r.Intn(18)), uint32(r.Intn(18))
	}
	m.busy, m.way = anyWord(r), anyWord(r)
	if r.Intn(3) > 0 {
		m.busy, m.way = uint32(r.Intn(12)), uint32(r.Intn(4))
	}
	for i := range m.z {
		m.z[i] = int64([]int{0, 1, 65519, 65520, r.Intn(65521)}[r.Intn(5)])
	}
	m.disk = []byte(anyBytes(r, 1024))
	m.on, m.in, m.out = r.Intn(2) == 1, []byte(anyBytes(r, r.Intn(17))), []byte(anyBytes(r, r.Intn(65)))
	return m.text()
}

// filled is a bus of any bytes, none of its pages dirty, and any devices.
func filled(t *testing.T, r *rand.Rand, pages int) pair {
	t.Helper()
	p := newPair(t, pages)
	for n := range pages {
		s := anyBytes(r, 256)
		p.b.Memory().Put(n, s)
		copy(p.m.mem[256*n:], s)
	}
	p.b.Memory().Clean()
	p.set(t, anyDevices(r))
	p.hold(t)
	return p
}

// P12.1: numbers of pages below, at and above the least and the most; beside an error there is no bus.
func TestNewPages(t *testing.T) {
	for _, n := range []int{math.MinInt, -64, -4, -1, 0, 1, 2, 3, 65, 66, 128, 1 << 32, 1<<32 + 4, math.MaxInt} {
		if b, e := New(n); b != nil || e != api.ErrMemSize {
			t.Errorf("New(%d): %v, %d", n, b, e)
		}
	}
	for n := 4; n <= 64; n++ {
		p := newPair(t, n)
		if p.b.Memory().Pages() != n {
			t.Errorf("New(%d): %d pages", n, p.b.Memory().Pages())
		}
		p.hold(t)
	}
	if api.ErrMemSize != 60 || api.ErrBusForm != 120 || api.ErrBusAt != 121 {
		t.Error(api.ErrMemSize, api.ErrBusForm, api.ErrBusAt)
	}
}

// P12.1, P12.5: the state of a new one, byte by byte.
func TestNewState(t *testing.T) {
	b, _ := New(4)
	rng := noughts(8) + "\x00\x00\x30\x39\x00\x00\x1a\x85"
	if s := b.Devices(); s != noughts(9)+noughts(17)+rng+noughts(1024)+noughts(3) {
		t.Errorf("%q", s)
	}
	if b.Memory().Image() != noughts(1024) || len(b.Memory().Dirty()) != 0 || b.Dma() != (api.Dma{}) {
		t.Error(b.Memory().Dirty(), b.Dma())
	}
	for range 30 {
		if l := b.Tick(); l != 0 {
			t.Error(l)
		}
	}
}

// P12.2: numbers of memory, of all sizes at all addresses, and behind its end.
func TestMemoryAll(t *testing.T) {
	r := rand.New(rand.NewSource(121))
	for _, pages := range []int{4, 5, 64} {
		p := filled(t, r, pages)
		end := uint32(256 * pages)
		ats := []uint32{end - 8, end - 5, end - 4, end - 3, end - 2, end - 1, end, end + 1, end + 2, end + 4, end + 256, 1 << 16, 1 << 24, 1<<29 + 4, 1 << 31, 1<<31 + 512, top - 7, top - 4, top - 3, top - 2, top - 1, top}
		for at := range uint32(1024) {
			ats = append(ats, at)
		}
		for _, at := range ats {
			p.peek(t, at)
			for _, size := range sizes() {
				p.load(t, at, size)
				p.store(t, at, size, r.Uint32())
				p.load(t, at, size)
			}
			p.peek(t, at)
		}
		p.hold(t)
	}
}

// P12.2: the numbers themselves, so that the reckoning is held, too; what is refused answers nothing beside its error.
func TestMemoryTold(t *testing.T) {
	b, _ := New(4)
	if e := b.Store(1020, 4, 0x01020304); e != api.OK {
		t.Error(e)
	}
	if e := b.Store(1022, 1, 0xffffffaa); e != api.OK {
		t.Error(e)
	}
	for _, x := range []struct {
		at   uint32
		size int
		v    uint32
		e    api.Errno
	}{
		{1020, 4, 0x0102aa04, api.OK}, {1020, 2, 0x0102, api.OK}, {1022, 2, 0xaa04, api.OK}, {1023, 1, 4, api.OK},
		{1018, 4, 0, api.ErrBusAt}, {1021, 2, 0, api.ErrBusAt}, {1020, 3, 0, api.ErrBusAt}, {1020, 0, 0, api.ErrBusAt},
		{1020, 8, 0, api.ErrBusAt}, {1020, -4, 0, api.ErrBusAt}, {1024, 4, 0, api.ErrBusAt}, {1024, 1, 0, api.ErrBusAt},
		{top - 3, 4, 0, api.ErrBusAt}, {top, 1, 0, api.ErrBusAt},
	} {
		if v, e := b.Load(x.at, x.size); v != x.v || e != x.e {
			t.Errorf("Load(%d, %d): %#x, %d", x.at, x.size, v, e)
		}
	}
	if v, ok := b.Peek(1020); v != 0x0102aa04 || !ok {
		t.Errorf("%#x, %v", v, ok)
	}
	if list := b.Memory().Dirty(); !slices.Equal(list, []int{3}) {
		t.Error(list)
	}
}

// P12.2: all addresses of each device and around them, with all sizes; a load or a store that is refused changes nothing.
func TestDeviceAddresses(t *testing.T) {
	r := rand.New(rand.NewSource(122))
	p := filled(t, r, 4)
	for at := uint32(api.DevTimer - 260); at < api.DevRng+256+260; at++ {
		p.peek(t, at)
		for _, size := range sizes() {
			p.load(t, at, size)
			p.store(t, at, size, anyWord(r))
		}
		p.hold(t)
		if r.Intn(16) == 0 {
			p.set(t, anyDevices(r))
		}
	}
}

// P12.2: the edges of each device themselves, so that the reckoning is held, too.
func TestDeviceEdges(t *testing.T) {
	b, _ := New(4)
	b.Feed(api.Event{Kind: api.EventByte, V: 7})
	last := map[uint32]uint32{api.DevTimer: 8, api.DevUart: 8, api.DevDma: 12, api.DevRng: 0}
	for _, base := range bases() {
		was := b.Devices()
		for _, at := range []uint32{base + last[base] + 4, base + last[base] + 1, base + 1, base + 2, base + 3, base + 252, base + 255} {
			if v, e := b.Load(at, 4); v != 0 || e != api.ErrBusAt {
				t.Errorf("Load(%#x, 4): %d, %d", at, v, e)
			}
			if e := b.Store(at, 4, 1); e != api.ErrBusAt {
				t.Errorf("Store(%#x, 4, 1): %d", at, e)
			}
		}
		for _, size := range []int{-4, -1, 0, 1, 2, 3, 5, 8} {
			if v, e := b.Load(base, size); v != 0 || e != api.ErrBusAt {
				t.Errorf("Load(%#x, %d): %d, %d", base, size, v, e)
			}
			if e := b.Store(base, size, 1); e != api.ErrBusAt {
				t.Errorf("Store(%#x, %d, 1): %d", base, size, e)
			}
		}
		if b.Devices() != was {
			t.Errorf("%#x: what was refused changed the devices", base)
		}
		if _, e := b.Load(base+last[base], 4); e != api.OK {
			t.Errorf("Load(%#x, 4): %d", base+last[base], e)
		}
	}
	for _, at := range []uint32{api.DevTimer - 4, api.DevTimer - 1, api.DevRng + 256, 0x1e000000, 0x9f000000, 0x0f000000, 0x1f010000} {
		for _, size := range []int{1, 4} {
			if v, e := b.Load(at, size); v != 0 || e != api.ErrBusAt {
				t.Errorf("Load(%#x, %d): %d, %d", at, size, v, e)
			}
			if e := b.Store(at, size, 1); e != api.ErrBusAt {
				t.Errorf("Store(%#x, %d, 1): %d", at, size, e)
			}
		}
	}
}

// P12.2: any number in any register of any state, all registers read behind it.
func TestRegistersAll(t *testing.T) {
	r := rand.New(rand.NewSource(123))
	p := newPair(t, 4)
	for range 60 {
		for _, base := range bases() {
			for reg := uint32(0); reg <= 16; reg += 4 {
				for _, v := range someWords() {
					p.store(t, base+reg, 4, v)
				}
				p.load(t, base+reg, 4)
				p.hold(t)
			}
		}
		p.set(t, anyDevices(r))
	}
}

// P12.2: what each register tells, so that the reckoning is held, too.
func TestRegistersTold(t *testing.T) {
	b, _ := New(4)
	tells := func(at, want uint32) {
		t.Helper()
		if v, e := b.Load(at, 4); v != want || e != api.OK {
			t.Errorf("Load(%#x, 4): %#x, %d; wanted %#x", at, v, e, want)
		}
	}
	put := func(at, v uint32) {
		t.Helper()
		if e := b.Store(at, 4, v); e != api.OK {
			t.Errorf("Store(%#x, 4, %#x): %d", at, v, e)
		}
	}
	put(api.DevTimer, 9)
	tells(api.DevTimer, 9)
	tells(api.DevTimer+4, 9)
	put(api.DevTimer+4, 1)
	tells(api.DevTimer+8, 0)
	b.Tick()
	tells(api.DevTimer+8, 1)
	put(api.DevTimer+8, 1)
	tells(api.DevTimer+8, 0)
	put(api.DevUart, 0x141)
	put(api.DevUart, 0x42)
	tells(api.DevUart+8, 2)
	put(api.DevUart+8, 5)
	tells(api.DevUart+8, 0)
	tells(api.DevUart+4, 0)
	put(api.DevDma, 0x01020304)
	put(api.DevDma+4, top)
	put(api.DevDma+8, 2)
	tells(api.DevDma, 0x01020304)
	tells(api.DevDma+4, top)
	tells(api.DevDma+8, 2)
	tells(api.DevDma+12, 10)
	put(api.DevRng, 0x00020001)
	tells(api.DevRng, (12345+1-4)+65536*(6789+4))
}

// P12.2: a load of the uart takes a byte and one of the rng a word; those that are refused do not.
func TestLoadChanges(t *testing.T) {
	b, _ := New(4)
	for _, c := range []uint32{'a', 'b', 'c'} {
		b.Feed(api.Event{Kind: api.EventByte, V: c})
	}
	for _, want := range []uint32{'a', 'b', 'c', 0, 0} {
		was := b.Devices()
		for _, size := range []int{-4, 0, 1, 2, 3, 5, 8} {
			b.Load(api.DevUart, size)
			b.Load(api.DevRng, size)
		}
		b.Load(api.DevUart+1, 4)
		b.Load(api.DevUart+12, 4)
		b.Load(api.DevRng+4, 4)
		b.Load(api.DevRng+2, 4)
		b.Peek(api.DevUart)
		b.Peek(api.DevRng)
		if b.Devices() != was {
			t.Fatal("what was refused changed the devices")
		}
		if v, e := b.Load(api.DevUart, 4); v != want || e != api.OK {
			t.Errorf("%d, %d; wanted %d", v, e, want)
		}
	}
	z := newModel(4)
	for n := range 100 {
		if v, e := b.Load(api.DevRng, 4); v != z.next() || e != api.OK {
			t.Fatalf("word %d: %d, %d", n, v, e)
		}
	}
}

// P12.2: what is peeked at is memory alone, and stays.
func TestPeek(t *testing.T) {
	r := rand.New(rand.NewSource(124))
	for _, pages := range []int{4, 64} {
		p := filled(t, r, pages)
		end := uint32(256 * pages)
		for _, at := range []uint32{end - 2, end - 1, end, end + 4, api.DevTimer - 4, api.DevRng + 256, 1, 2, 3, 5, top - 3, top} {
			if v, ok := p.b.Peek(at); v != 0 || ok {
				t.Errorf("Peek(%#x): %d, %v", at, v, ok)
			}
		}
		for at := uint32(api.DevTimer); at < api.DevRng+256; at++ {
			if v, ok := p.b.Peek(at); v != 0 || ok {
				t.Errorf("Peek(%#x): %d, %v", at, v, ok)
			}
		}
		for at := uint32(0); at < end; at += 4 {
			p.peek(t, at)
		}
		p.hold(t)
	}
}

// P12.3: the lines with each device ringing, alone and together; a uart rings only if it is on and has a byte.
func TestLines(t *testing.T) {
	for want := range uint32(8) {
		for other := range 3 {
			b, _ := New(4)
			m := newModel(4)
			m.timerRing, m.dmaRing = want&1 != 0, want&4 != 0
			m.on, m.in = want&2 != 0, []byte("x")
			if want&2 == 0 && other == 1 {
				m.on, m.in = true, nil
			}
			if other == 2 {
				m.out = []byte("o")
			}
			if e := b.Set(m.text()); e != api.OK {
				t.Fatal(e)
			}
			for range 3 {
				if l := b.Tick(); l != want {
					t.Errorf("%d, wanted %d", l, want)
				}
			}
		}
	}
}

// P12.3: one step of any devices, and of their steps behind it.
func TestTickAny(t *testing.T) {
	r := rand.New(rand.NewSource(125))
	for range 300 {
		p := filled(t, r, 4+r.Intn(3))
		for range 24 {
			p.tick(t)
			p.hold(t)
		}
	}
}

// P12.3: the timer rings with the tick of its number, and again, till it is stilled.
func TestTimerRings(t *testing.T) {
	b, _ := New(4)
	b.Store(api.DevTimer, 4, 5)
	for n := 1; n <= 40; n++ {
		if l := b.Tick(); l != uint32(bit(n%5 == 0)) {
			t.Errorf("Tick %d: %d", n, l)
		}
		b.Store(api.DevTimer+8, 4, top)
	}
}

// P12.3: a move is done with the tenth tick, with the address, the sector, the memory and the disk that are then, and once.
func TestMoveThen(t *testing.T) {
	r := rand.New(rand.NewSource(126))
	for round := range 200 {
		p := filled(t, r, 4)
		p.m.busy, p.m.way, p.m.dmaRing, p.m.every, p.m.on = 0, 0, false, 0, false
		p.m.timerRing = false
		p.set(t, p.m.text())
		way := uint32(1 + round%2)
		p.store(t, api.DevDma, 4, 64*uint32(r.Intn(16)))
		p.store(t, api.DevDma+4, 4, uint32(r.Intn(16)))
		p.store(t, api.DevDma+8, 4, way)
		for n := 1; n <= 15; n++ {
			if round%3 > 0 && n == 1+r.Intn(15) {
				p.store(t, api.DevDma, 4, 64*uint32(r.Intn(17)))
				p.store(t, api.DevDma+4, 4, uint32(r.Intn(17)))
				p.store(t, api.DevDma+8, 4, 3-way)
				p.store(t, 4*uint32(r.Intn(256)), 4, r.Uint32())
			}
			image, disk := p.b.Memory().Image(), p.b.Devices()[42:1066]
			l := p.tick(t)
			if n < 10 && (l != 0 || p.b.Memory().Image() != image || p.b.Devices()[42:1066] != disk) {
				t.Fatalf("round %d: a move with Tick %d", round, n)
			}
			p.hold(t)
		}
	}
}

// P12.3: the bytes of a move both ways, so that the reckoning is held, too: they are those behind the tick, not those at which it was begun.
func TestMoveTold(t *testing.T) {
	b, _ := New(4)
	begin := func(addr, num, way uint32) {
		b.Store(api.DevDma, 4, addr)
		b.Store(api.DevDma+4, 4, num)
		b.Store(api.DevDma+8, 4, way)
	}
	ticks := func() {
		t.Helper()
		for n := 1; n <= 10; n++ {
			if l := b.Tick(); l != 4*uint32(bit(n == 10)) {
				t.Errorf("Tick %d: %d", n, l)
			}
		}
		b.Store(api.DevDma+12, 4, 0)
	}
	b.Store(128, 4, 0x61626364)
	begin(0, 1, 2)
	b.Store(api.DevDma, 4, 128)
	b.Store(api.DevDma+4, 4, 15)
	b.Store(132, 4, 0x65666768)
	ticks()
	if s := b.Devices()[42:1066]; s != noughts(960)+"abcdefgh"+noughts(56) {
		t.Errorf("%q", s)
	}
	b.Memory().Clean()
	begin(0, 0, 1)
	b.Store(api.DevDma, 4, 960)
	b.Store(api.DevDma+4, 4, 15)
	ticks()
	if s := b.Memory().Image(); s != noughts(128)+"abcdefgh"+noughts(824)+"abcdefgh"+noughts(56) {
		t.Errorf("%q", s)
	}
	if list := b.Memory().Dirty(); !slices.Equal(list, []int{3}) {
		t.Error(list)
	}
	if d := b.Dma(); d != (api.Dma{Addr: 960, Num: 15}) {
		t.Errorf("%+v", d)
	}
}

// P12.3: a move whose ends are not there rings, and moves nothing.
func TestMoveNowhere(t *testing.T) {
	r := rand.New(rand.NewSource(127))
	for _, addr := range []uint32{0, 1, 32, 960, 1024, top - 63, top} {
		for _, num := range []uint32{0, 15, 16, 1 << 26, top} {
			for _, way := range []uint32{0, 1, 2, 3, top} {
				for _, busy := range []uint32{0, 1, 2, top} {
					p := filled(t, r, 4)
					p.m.addr, p.m.num, p.m.way, p.m.busy = addr, num, way, busy
					p.set(t, p.m.text())
					for range 3 {
						p.tick(t)
						p.hold(t)
					}
				}
			}
		}
	}
}

// P12.4: bytes modulo 256, in order; what finds 16 waiting is lost; At does not matter.
func TestFeedBytes(t *testing.T) {
	p := newPair(t, 4)
	ats := []int{math.MinInt, -1, 0, 1, 1 << 40, 1<<40 + 1, math.MaxInt}
	for n := range 20 {
		p.feed(t, api.Event{At: ats[n%len(ats)], Kind: api.EventByte, V: uint32(0xabcdef00 + 13*n)})
		p.hold(t)
		if v := p.load(t, api.DevUart+4, 4); v != uint32(min(n+1, 16)) {
			t.Errorf("%d bytes wait behind %d", v, n+1)
		}
	}
	for n := range 18 {
		want := uint32(13 * n)
		if n >= 16 {
			want = 0
		}
		if v := p.load(t, api.DevUart, 4); v != want {
			t.Errorf("byte %d: %d, wanted %d", n, v, want)
		}
	}
	for _, v := range someWords() {
		p.feed(t, api.Event{Kind: api.EventByte, V: v})
		if got := p.load(t, api.DevUart, 4); got != v%256 {
			t.Errorf("%#x: %d", v, got)
		}
	}
}

// P12.4: words are stirred into the rng, and into nothing else.
func TestFeedStir(t *testing.T) {
	r := rand.New(rand.NewSource(128))
	p := filled(t, r, 4)
	for n, v := range someWords() {
		p.feed(t, api.Event{At: n - 3, Kind: api.EventStir, V: v})
		p.hold(t)
		p.load(t, api.DevRng, 4)
	}
	b, _ := New(4)
	b.Feed(api.Event{Kind: api.EventStir, V: 0x00020001})
	if s := b.Devices()[26:34]; s != "\x00\x00\x00\x01\x00\x00\x00\x02" {
		t.Errorf("%q", s)
	}
	c, _ := New(4)
	c.Store(api.DevRng, 4, 0x00020001)
	if c.Devices() != b.Devices() {
		t.Error("a word that is written is stirred in otherwise than one that is fed")
	}
}

// P12.4: another kind is refused, and changes nothing.
func TestFeedOther(t *testing.T) {
	r := rand.New(rand.NewSource(129))
	p := filled(t, r, 4)
	for _, kind := range []int{math.MinInt, -1 << 32, -2, -1, api.EventKinds, 3, 256, 1 << 32, 1<<32 + 1, math.MaxInt} {
		if e := p.b.Feed(api.Event{Kind: kind, V: 65}); e != api.ErrBusForm {
			t.Errorf("kind %d: %d", kind, e)
		}
		p.feed(t, api.Event{At: 1, Kind: kind, V: top})
		p.hold(t)
	}
}

// P12.5: Memory is the memory itself: what is changed there is seen here, and the other way round.
func TestMemoryItself(t *testing.T) {
	b, _ := New(4)
	m := b.Memory()
	m.Store(512, 4, 0x01020304)
	if v, e := b.Load(512, 4); v != 0x01020304 || e != api.OK {
		t.Error(v, e)
	}
	if v, ok := b.Peek(512); v != 0x01020304 || !ok {
		t.Error(v, ok)
	}
	b.Store(516, 2, 0x0506)
	if v, _ := m.Load(516, 2); v != 0x0506 || b.Memory() != m {
		t.Error(v)
	}
	m.Clean()
	if list := b.Memory().Dirty(); len(list) != 0 {
		t.Error(list)
	}
	m.Put(2, strings.Repeat("p", 256))
	b.Set(noughts(1069))
	if s, _ := b.Memory().Page(2); s != strings.Repeat("p", 256) || b.Memory() != m {
		t.Errorf("Set changed the memory: %q", s)
	}
	b.Store(api.DevDma, 4, 512)
	b.Store(api.DevDma+8, 4, 2)
	for range 10 {
		b.Tick()
	}
	if s := b.Devices()[42 : 42+65]; s != strings.Repeat("p", 64)+"\x00" {
		t.Errorf("%q", s)
	}
}

// P12.5: the bytes of a state, one device behind the other, and back.
func TestDevicesTold(t *testing.T) {
	want := "\x00\x00\x00\x07\x00\x00\x00\x06\x01" +
		"\x00\x00\x00\x40\x00\x00\x00\x0f\x00\x00\x00\x09\x00\x00\x00\x02\x00" +
		"\x00\x00\x00\x01\x00\x00\xff\xf0\x00\x00\x30\x39\x00\x00\x1a\x85" +
		strings.Repeat("d", 960) + strings.Repeat("e", 64) +
		"\x01\x02\xffi\x03out"
	b, _ := New(4)
	if e := b.Set(want); e != api.OK || b.Devices() != want {
		t.Fatalf("%d, %q", e, b.Devices())
	}
	if d := b.Dma(); d != (api.Dma{Addr: 64, Num: 15, Busy: 9, Way: 2}) {
		t.Errorf("%+v", d)
	}
	for at, v := range map[uint32]uint32{
		api.DevTimer: 7, api.DevTimer + 4: 6, api.DevTimer + 8: 1,
		api.DevUart + 4: 2, api.DevUart + 8: 3,
		api.DevDma: 64, api.DevDma + 4: 15, api.DevDma + 8: 2, api.DevDma + 12: 9,
	} {
		if got, e := b.Load(at, 4); got != v || e != api.OK {
			t.Errorf("%#x: %d, %d; wanted %d", at, got, e, v)
		}
	}
	if v, _ := b.Load(api.DevUart, 4); v != 255 {
		t.Error(v)
	}
	// z is 1 - i, modulo 65521: its square is -2i.
	if v, _ := b.Load(api.DevRng, 4); v != 12345+65536*(6789-2) {
		t.Error(v)
	}
	if l := b.Tick(); l != 3 {
		t.Error(l)
	}
}

// P12.5: any states there and back.
func TestThereAndBack(t *testing.T) {
	r := rand.New(rand.NewSource(130))
	p := newPair(t, 4)
	for range 1000 {
		s := anyDevices(r)
		if e := p.b.Set(s); e != api.OK || p.b.Devices() != s {
			t.Fatalf("Set(%q): %d", s, e)
		}
		p.m.set(s)
		p.hold(t)
	}
}

// P12.5: parts of the rng up to 65520, each of the four.
func TestSetParts(t *testing.T) {
	r := rand.New(rand.NewSource(131))
	p := filled(t, r, 4)
	for part := range 4 {
		for word, ok := range map[string]bool{
			"\x00\x00\x00\x00": true, "\x00\x00\xff\xef": true, "\x00\x00\xff\xf0": true,
			"\x00\x00\xff\xf1": false, "\x00\x00\xff\xff": false, "\x00\x01\x00\x00": false,
			"\x01\x00\x00\x00": false, "\x80\x00\x00\x00": false, "\xff\xff\xff\xff": false,
		} {
			s := anyDevices(r)
			s = s[:26+4*part] + word + s[30+4*part:]
			if e := p.b.Clone().Set(s); (e == api.OK) != ok {
				t.Errorf("part %d, %q: %d", part, word, e)
			}
			p.set(t, s)
			p.hold(t)
		}
	}
}

// P12.5: texts that are none, and the state that stays then.
func TestSetRefused(t *testing.T) {
	r := rand.New(rand.NewSource(132))
	p := filled(t, r, 4)
	was := p.b.Devices()
	refuse := func(s string) {
		t.Helper()
		if e := p.b.Set(s); e != api.ErrBusForm || p.b.Devices() != was {
			t.Fatalf("Set(%q): %d", s, e)
		}
		p.hold(t)
	}
	full := newModel(4)
	full.every, full.disk, full.in, full.out = 9, []byte(anyBytes(r, 1024)), []byte(anyBytes(r, 16)), []byte(anyBytes(r, 64))
	for _, s := range []string{noughts(1069), newModel(4).text(), full.text(), anyDevices(r)} {
		for n := range s {
			if e := p.b.Set(s[:n]); e != api.ErrBusForm || p.b.Devices() != was {
				t.Fatalf("Set of the first %d bytes: %d", n, e)
			}
		}
		for _, more := range []string{"\x00", "\x01", "x", s} {
			refuse(s + more)
		}
		refuse(s[1:])
		for _, at := range []int{8, 25, 1066} {
			for _, c := range []string{"\x02", "\x80", "\xff"} {
				refuse(s[:at] + c + s[at+1:])
			}
		}
		refuse(s[:1067] + "\x11" + strings.Repeat("i", 17) + "\x00")
		refuse(s[:1067] + "\x00\x41" + strings.Repeat("o", 65))
		refuse(s[:1067] + "\x01\x00")
		refuse(s[:1067] + "\x00\x01")
	}
	refuse("")
}

// P12.5: texts of any length and any bytes, and those a byte away from one that is a state.
func TestSetAny(t *testing.T) {
	r := rand.New(rand.NewSource(133))
	p := filled(t, r, 4)
	for _, c := range []string{"\x00", "\x01", "\xff"} {
		for n := 0; n < 1200; n++ {
			p.set(t, strings.Repeat(c, n))
		}
		p.set(t, strings.Repeat(c, 1<<16))
	}
	for range 2000 {
		p.set(t, anyBytes(r, r.Intn(1300)))
		s := []byte(anyDevices(r))
		if at := r.Intn(3); at == 0 {
			s[r.Intn(42)] = byte(r.Intn(256))
		} else if at == 1 {
			s[1066+r.Intn(len(s)-1066)] = byte(r.Intn(80))
		} else {
			s = append(s[:1066], anyBytes(r, r.Intn(90))...)
		}
		p.set(t, string(s))
		p.hold(t)
	}
}

// P12.5, R7: a clone tells the same, and both go their own way, memory and devices.
func TestClone(t *testing.T) {
	r := rand.New(rand.NewSource(134))
	for range 60 {
		p := filled(t, r, 4+r.Intn(3))
		p.store(t, uint32(r.Intn(1024)), 1, 7)
		c := p.clone()
		c.hold(t)
		if c.b.Memory() == p.b.Memory() {
			t.Fatal("one memory of two")
		}
		still, wasDevices, wasImage, wasDirty := p, p.b.Devices(), p.b.Memory().Image(), p.b.Memory().Dirty()
		going := c
		if r.Intn(2) == 0 {
			still, going = c, p
		}
		for range 60 {
			anyCall(t, r, going)
		}
		going.hold(t)
		still.hold(t)
		if still.b.Devices() != wasDevices || still.b.Memory().Image() != wasImage || !slices.Equal(still.b.Memory().Dirty(), wasDirty) {
			t.Fatal("the other one went along")
		}
	}
}

// P12.6: a bus with the same memory, and the devices set, goes on as the other one did.
func TestGoesOn(t *testing.T) {
	for seed := range int64(60) {
		r := rand.New(rand.NewSource(13500 + seed))
		p := filled(t, r, 4)
		for range 200 {
			anyCall(t, r, p)
		}
		q := newPair(t, 4)
		for n := range 4 {
			s, _ := p.b.Memory().Page(n)
			q.b.Memory().Put(n, s)
		}
		if e := q.b.Set(p.b.Devices()); e != api.OK {
			t.Fatal(e)
		}
		p.b.Memory().Clean()
		q.b.Memory().Clean()
		clear(p.m.dirty)
		q.m = p.m.clone()
		for range 200 {
			call := r.Int63()
			anyCall(t, rand.New(rand.NewSource(call)), p)
			anyCall(t, rand.New(rand.NewSource(call)), q)
			if p.b.Devices() != q.b.Devices() || p.b.Memory().Image() != q.b.Memory().Image() {
				t.Fatal("they go on otherwise")
			}
		}
		p.hold(t)
		q.hold(t)
	}
}

// anyAt is an address of any kind, registers and memory more often than others.
func anyAt(r *rand.Rand) uint32 {
	switch r.Intn(8) {
	case 0:
		return anyWord(r)
	case 1:
		return bases()[r.Intn(4)] + uint32(r.Intn(256))
	case 2:
		return uint32(r.Intn(1300))
	case 3:
		return 4 * uint32(r.Intn(257))
	}
	return bases()[r.Intn(4)] + 4*uint32(r.Intn(5))
}

func anySize(r *rand.Rand) int {
	if r.Intn(4) > 0 {
		return 4
	}
	return sizes()[r.Intn(len(sizes()))]
}

func anyValue(r *rand.Rand) uint32 {
	switch r.Intn(3) {
	case 0:
		return uint32(r.Intn(4))
	case 1:
		return 64 * uint32(r.Intn(18))
	}
	return anyWord(r)
}

// anyCall makes one call of any kind, held against the model.
func anyCall(t *testing.T, r *rand.Rand, p pair) {
	t.Helper()
	switch r.Intn(20) {
	case 0:
		p.peek(t, anyAt(r))
	case 1, 2, 3:
		p.load(t, anyAt(r), anySize(r))
	case 4, 5, 6, 7:
		p.store(t, anyAt(r), anySize(r), anyValue(r))
	case 8, 9:
		p.feed(t, api.Event{At: r.Intn(100) - 50, Kind: r.Intn(4) - 1, V: anyWord(r)})
	case 10:
		if r.Intn(8) == 0 {
			p.set(t, anyDevices(r))
		} else {
			p.set(t, anyBytes(r, r.Intn(1200)))
		}
	case 11:
		changeMemory(r, p)
	default:
		p.tick(t)
	}
}

// changeMemory changes the memory of a bus by itself.
func changeMemory(r *rand.Rand, p pair) {
	m := p.b.Memory()
	n := r.Intn(len(p.m.dirty))
	switch r.Intn(6) {
	case 0:
		m.Clean()
		clear(p.m.dirty)
	case 1:
		s := anyBytes(r, 256)
		m.Put(n, s)
		copy(p.m.mem[256*n:], s)
		p.m.dirty[n] = true
	default:
		at, c := 256*n+r.Intn(256), byte(r.Intn(256))
		m.Store(uint32(at), 1, uint32(c))
		p.m.mem[at], p.m.dirty[n] = c, true
	}
}

// P12.2 to P12.6: any order of calls on several side by side, clones among them.
func TestAnyOrder(t *testing.T) {
	for seed := range int64(40) {
		r := rand.New(rand.NewSource(13600 + seed))
		ps := []pair{filled(t, r, 4), newPair(t, 4), newPair(t, 4+r.Intn(61))}
		for n := range 1500 {
			p := ps[r.Intn(len(ps))]
			anyCall(t, r, p)
			if n%50 == 0 {
				ps[r.Intn(len(ps))] = p.clone()
			}
			if n%10 == 0 {
				p.hold(t)
			}
		}
		for _, p := range ps {
			p.hold(t)
		}
	}
}

// The chapter's examples.
func TestExamples(t *testing.T) {
	b, _ := New(4)
	if e := b.Store(api.DevTimer, 4, 1); e != api.OK || b.Tick() != 1 {
		t.Error(e)
	}
	if e := b.Feed(api.Event{Kind: api.EventByte, V: 65}); e != api.OK {
		t.Error(e)
	}
	if v, e := b.Load(api.DevUart, 4); v != 65 || e != api.OK {
		t.Error(v, e)
	}
	if v, e := b.Load(api.DevRng, 4); v != 12345+65536*6789 || e != api.OK {
		t.Error(v, e)
	}
	if v, e := b.Load(api.DevRng+4, 4); v != 0 || e != api.ErrBusAt {
		t.Error(v, e)
	}
}
