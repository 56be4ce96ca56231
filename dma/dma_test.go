package dma

import (
	"encoding/binary"
	"math/rand"
	"slices"
	"strings"
	"testing"

	"zoetrope/api"
	"zoetrope/mem"
)

const top = 1<<32 - 1

func someWords() []uint32 {
	ws := []uint32{0, 3, 9, 10, 11, 15, 63, 65, 255, 257, 0x01020304, 0x7fffffff, 0xfffffffc, top - 63, top - 1, top}
	for n := range 32 {
		ws = append(ws, 1<<n)
	}
	return ws
}

func noRegs() []uint32 {
	return []uint32{1, 2, 3, 5, 6, 7, 9, 10, 11, 13, 14, 15, 16, 17, 20, 24, 32, 255, 256, 260, 264, 268, 1 << 16, 1<<16 + 4, 1 << 31, 1<<31 + 8, top - 15, top - 11, top - 7, top - 3, top}
}

// someStates are all kinds together, those that no calls would lead to, too.
func someStates() []api.Dma {
	ds := []api.Dma{}
	for _, addr := range []uint32{0, 1, 63, 64, top - 63, top} {
		for _, num := range []uint32{0, 15, 16, top} {
			for _, busy := range []uint32{0, 1, 2, 3, 9, 10, 11, top} {
				for _, way := range []uint32{0, 1, 2, 3, top} {
					d := api.Dma{Addr: addr, Num: num, Busy: busy, Way: way}
					ds = append(ds, d)
					d.Ring = true
					ds = append(ds, d)
				}
			}
		}
	}
	return ds
}

func anyState(r *rand.Rand) api.Dma {
	word := func() uint32 { return r.Uint32() >> r.Intn(33) }
	return api.Dma{Addr: word(), Num: word(), Busy: word(), Way: word(), Ring: r.Intn(2) == 1}
}

// P11.1: each register tells its own number.
func TestRead(t *testing.T) {
	r := rand.New(rand.NewSource(111))
	ds := append(someStates(), api.Dma{Addr: 1, Num: 2, Busy: 3, Way: 4})
	for range 1000 {
		ds = append(ds, anyState(r))
	}
	for _, d := range ds {
		for i, want := range []uint32{d.Addr, d.Num, d.Way, d.Busy} {
			if v, e := Read(d, uint32(4*i)); v != want || e != api.OK {
				t.Fatalf("Read(%+v, %d): %d, %d; wanted %d", d, 4*i, v, e, want)
			}
		}
	}
}

// P11.1: of another register there is an error, and nothing beside it.
func TestNoRegister(t *testing.T) {
	for _, d := range someStates() {
		for _, reg := range noRegs() {
			if v, e := Read(d, reg); v != 0 || e != api.ErrDmaForm {
				t.Fatalf("Read(%+v, %d): %d, %d", d, reg, v, e)
			}
			for _, v := range []uint32{0, 1, 2, 3, 64, top} {
				if w, e := Write(d, reg, v); w != (api.Dma{}) || e != api.ErrDmaForm {
					t.Fatalf("Write(%+v, %d, %d): %+v, %d", d, reg, v, w, e)
				}
			}
		}
	}
	if api.ErrDmaForm != 110 {
		t.Error(api.ErrDmaForm)
	}
}

// P11.1: 0 and 4 take any number, also while a move is begun; 12 stills the ring, whatever is written; nothing else changes.
func TestWrite(t *testing.T) {
	for _, d := range someStates() {
		for _, v := range someWords() {
			for reg, want := range map[uint32]api.Dma{
				0:  {Addr: v, Num: d.Num, Busy: d.Busy, Way: d.Way, Ring: d.Ring},
				4:  {Addr: d.Addr, Num: v, Busy: d.Busy, Way: d.Way, Ring: d.Ring},
				12: {Addr: d.Addr, Num: d.Num, Busy: d.Busy, Way: d.Way},
			} {
				if w, e := Write(d, reg, v); w != want || e != api.OK {
					t.Fatalf("Write(%+v, %d, %d): %+v, %d; wanted %+v", d, reg, v, w, e, want)
				}
			}
		}
	}
}

// P11.1: 8 begins a move of the ways 1 and 2 alone, and only where none is begun; a ring goes on.
func TestWriteWay(t *testing.T) {
	for _, d := range someStates() {
		for _, v := range someWords() {
			want := d
			if d.Busy == 0 && (v == 1 || v == 2) {
				want = api.Dma{Addr: d.Addr, Num: d.Num, Busy: 10, Way: v, Ring: d.Ring}
			}
			if w, e := Write(d, 8, v); w != want || e != api.OK {
				t.Fatalf("Write(%+v, 8, %d): %+v, %d; wanted %+v", d, v, w, e, want)
			}
		}
	}
}

// P11.2: one step of any state.
func TestTick(t *testing.T) {
	r := rand.New(rand.NewSource(112))
	ds := someStates()
	for range 4000 {
		ds = append(ds, anyState(r))
	}
	for _, d := range ds {
		want, way := d, uint32(0)
		switch d.Busy {
		case 0:
		case 1:
			want, way = api.Dma{Addr: d.Addr, Num: d.Num, Ring: true}, d.Way
		default:
			want.Busy = d.Busy - 1
		}
		if w, told := Tick(d); w != want || told != way {
			t.Fatalf("Tick(%+v): %+v, %d; wanted %+v, %d", d, w, told, want, way)
		}
	}
}

// P11.2: the steps themselves, so that the reckoning above is held, too.
func TestTickTold(t *testing.T) {
	for _, x := range []struct {
		d, want api.Dma
		way     uint32
	}{
		{api.Dma{}, api.Dma{}, 0},
		{api.Dma{Way: 2}, api.Dma{Way: 2}, 0},
		{api.Dma{Addr: 5, Num: 6, Busy: 1, Way: 2}, api.Dma{Addr: 5, Num: 6, Ring: true}, 2},
		{api.Dma{Busy: 1, Way: 1, Ring: true}, api.Dma{Ring: true}, 1},
		{api.Dma{Busy: 1}, api.Dma{Ring: true}, 0},
		{api.Dma{Busy: 1, Way: top}, api.Dma{Ring: true}, top},
		{api.Dma{Busy: 2, Way: 1}, api.Dma{Busy: 1, Way: 1}, 0},
		{api.Dma{Busy: 10, Way: 2, Ring: true}, api.Dma{Busy: 9, Way: 2, Ring: true}, 0},
		{api.Dma{Busy: top, Way: 1}, api.Dma{Busy: top - 1, Way: 1}, 0},
	} {
		if d, way := Tick(x.d); d != x.want || way != x.way {
			t.Errorf("Tick(%+v): %+v, %d; wanted %+v, %d", x.d, d, way, x.want, x.way)
		}
	}
}

// anyBytes differ from place to place, so that a byte at a wrong one is seen.
func anyBytes(r *rand.Rand, n int) string {
	b := make([]byte, n)
	r.Read(b)
	return string(b)
}

// filled is a memory of any bytes, of which no page is dirty but those that are named.
func filled(t *testing.T, r *rand.Rand, pages int, dirty ...int) *mem.Memory {
	t.Helper()
	m, e := mem.New(pages)
	if e != api.OK {
		t.Fatal(e)
	}
	for n := range pages {
		m.Put(n, anyBytes(r, 256))
	}
	m.Clean()
	for _, n := range dirty {
		m.Put(n, anyBytes(r, 256))
	}
	return m
}

// spliced has the bytes of s at that place of all.
func spliced(all string, at int, s string) string { return all[:at] + s + all[at+len(s):] }

// mayMove tells the chapter's words of when a move is made.
func mayMove(d api.Dma, way uint32, image, disk string) bool {
	ends := uint64(d.Addr) + 64
	return len(disk) == 1024 && d.Num <= 15 && d.Addr&63 == 0 && ends <= uint64(len(image)) && (way == 1 || way == 2)
}

// holdMove makes a move, and holds the disk, all bytes of memory and its dirty pages against those that there should be.
func holdMove(t *testing.T, d api.Dma, way uint32, m *mem.Memory, disk string) string {
	t.Helper()
	image, dirty := m.Image(), m.Dirty()
	wantDisk, wantImage, wantDirty := disk, image, dirty
	if mayMove(d, way, image, disk) {
		at, from := int(d.Addr), 64*int(d.Num)
		if way == 2 {
			wantDisk = spliced(disk, from, image[at:at+64])
		} else {
			wantImage = spliced(image, at, disk[from:from+64])
			wantDirty = append(slices.Clone(dirty), at/256)
			slices.Sort(wantDirty)
			wantDirty = slices.Compact(wantDirty)
		}
	}
	got := Move(d, way, m, disk)
	if got != wantDisk {
		t.Fatalf("Move(%+v, %d) of %d bytes: another disk than wanted", d, way, len(disk))
	}
	if m.Image() != wantImage {
		t.Fatalf("Move(%+v, %d) of %d bytes: another memory than wanted", d, way, len(disk))
	}
	if !slices.Equal(m.Dirty(), wantDirty) {
		t.Fatalf("Move(%+v, %d) of %d bytes: dirty %v, wanted %v", d, way, len(disk), m.Dirty(), wantDirty)
	}
	return got
}

// P11.3: each sector to and from each place of the least memory, and of some of the most.
func TestMoveAll(t *testing.T) {
	r := rand.New(rand.NewSource(113))
	for _, pages := range []int{4, 5, 64} {
		for num := range uint32(16) {
			for at := 0; at < 256*pages; at += 64 {
				if pages == 64 && at > 512 && at < 256*63 && at%(64*15) != 0 {
					continue
				}
				for _, way := range []uint32{1, 2} {
					holdMove(t, api.Dma{Addr: uint32(at), Num: num}, way, filled(t, r, pages), anyBytes(r, 1024))
				}
			}
		}
	}
}

// P11.3: the edges that the chapter names, all together: where one of them is not met nothing is done.
func TestMoveEdges(t *testing.T) {
	r := rand.New(rand.NewSource(114))
	for _, pages := range []int{4, 64} {
		end := uint32(256 * pages)
		for _, size := range []int{0, 1, 64, 1023, 1024, 1025, 2048} {
			disk := anyBytes(r, size)
			for _, num := range []uint32{0, 1, 14, 15, 16, 17, 1 << 26, 1<<26 + 15, 1 << 31, top} {
				for _, addr := range []uint32{0, 1, 4, 32, 63, 64, 65, 192, 256, end - 65, end - 64, end - 63, end - 60, end - 1, end, end + 1, end + 64, 1 << 31, top - 127, top - 63, top - 3, top} {
					m := filled(t, r, pages, 0, pages-1)
					for _, way := range []uint32{0, 1, 2, 3, 4, 1 << 31, top - 1, top} {
						holdMove(t, api.Dma{Addr: addr, Num: num}, way, m, disk)
					}
				}
			}
		}
	}
}

// P11.3: the bytes themselves, so that the reckoning above is held, too.
func TestMoveTold(t *testing.T) {
	m, _ := mem.New(4)
	disk := strings.Repeat("a", 64) + strings.Repeat("b", 64) + strings.Repeat("c", 896)
	if s := Move(api.Dma{Addr: 256, Num: 1}, 1, m, disk); s != disk {
		t.Error("way 1: another disk")
	}
	if m.Image() != strings.Repeat("\x00", 256)+strings.Repeat("b", 64)+strings.Repeat("\x00", 704) {
		t.Errorf("%q", m.Image())
	}
	if list := m.Dirty(); !slices.Equal(list, []int{1}) {
		t.Error(list)
	}
	m.Clean()
	m.Store(956, 4, 0x01020304)
	m.Store(960, 4, 0x05060708)
	m.Store(1020, 4, 0xfcfdfeff)
	m.Clean()
	out := Move(api.Dma{Addr: 960, Num: 15}, 2, m, disk)
	if out != disk[:960]+"\x05\x06\x07\x08"+strings.Repeat("\x00", 56)+"\xfc\xfd\xfe\xff" {
		t.Errorf("%q", out)
	}
	if list := m.Dirty(); len(list) != 0 {
		t.Error("way 2 makes pages dirty:", list)
	}
}

// P11.3: the page is dirty also if the bytes are the same; pages that were dirty stay so both ways.
func TestMoveDirty(t *testing.T) {
	r := rand.New(rand.NewSource(115))
	m := filled(t, r, 8, 2, 5)
	disk := anyBytes(r, 1024)
	for range 2 {
		holdMove(t, api.Dma{Addr: 1728, Num: 9}, 1, m, disk)
		if list := m.Dirty(); !slices.Equal(list, []int{2, 5, 6}) {
			t.Fatal(list)
		}
		holdMove(t, api.Dma{Addr: 0, Num: 9}, 2, m, disk)
		if list := m.Dirty(); !slices.Equal(list, []int{2, 5, 6}) {
			t.Fatal(list)
		}
	}
	m.Clean()
	holdMove(t, api.Dma{Addr: 1728, Num: 9}, 1, m, disk)
	if list := m.Dirty(); !slices.Equal(list, []int{6}) {
		t.Error("the same bytes again:", list)
	}
}

// P11.3: Busy, the state's own Way and the ring do not matter to what is moved.
func TestMoveOfAnyState(t *testing.T) {
	r := rand.New(rand.NewSource(116))
	m, disk := filled(t, r, 4), anyBytes(r, 1024)
	for _, d := range someStates() {
		for way := range uint32(4) {
			disk = holdMove(t, d, way, m, disk)
		}
	}
	for range 2000 {
		d := anyState(r)
		if r.Intn(3) > 0 {
			d.Addr, d.Num = 64*uint32(r.Intn(18)), uint32(r.Intn(18))
		}
		disk = holdMove(t, d, uint32(r.Intn(4)), m, disk)
	}
}

// R7: a clone of the memory is not moved to.
func TestMoveBesideClone(t *testing.T) {
	r := rand.New(rand.NewSource(117))
	m := filled(t, r, 4)
	c, was := m.Clone(), m.Image()
	holdMove(t, api.Dma{Addr: 128, Num: 3}, 1, m, anyBytes(r, 1024))
	if c.Image() != was || len(c.Dirty()) != 0 {
		t.Error("the clone is another one")
	}
}

// P11.4: the bytes themselves.
func TestText(t *testing.T) {
	for want, d := range map[string]api.Dma{
		strings.Repeat("\x00", 17):                                             {},
		strings.Repeat("\x00", 16) + "\x01":                                    {Ring: true},
		strings.Repeat("\xff", 16) + "\x01":                                    {Addr: top, Num: top, Busy: top, Way: top, Ring: true},
		"\x00\x00\x00\x01\x00\x00\x00\x02\x00\x00\x00\x03\x00\x00\x00\x04\x01": {Addr: 1, Num: 2, Busy: 3, Way: 4, Ring: true},
		"\x00\x00\x03\xc0\x00\x00\x00\x0f\x00\x00\x00\x0a\x00\x00\x00\x02\x00": {Addr: 960, Num: 15, Busy: 10, Way: 2},
		"\x01\x02\x03\x04\x05\x06\x07\x08\x09\x0a\x0b\x0c\xfc\xfd\xfe\xff\x00": {Addr: 0x01020304, Num: 0x05060708, Busy: 0x090a0b0c, Way: 0xfcfdfeff},
	} {
		if s := Text(d); s != want {
			t.Errorf("Text(%+v): %q, wanted %q", d, s, want)
		}
		if v, e := Parse(want); v != d || e != api.OK {
			t.Errorf("Parse(%q): %+v, %d", want, v, e)
		}
	}
}

// P11.4: there and back.
func TestThereAndBack(t *testing.T) {
	r := rand.New(rand.NewSource(118))
	ds := someStates()
	for range 4000 {
		ds = append(ds, anyState(r))
	}
	for _, d := range ds {
		b := []byte{}
		for _, v := range []uint32{d.Addr, d.Num, d.Busy, d.Way} {
			b = binary.BigEndian.AppendUint32(b, v)
		}
		b = append(b, 0)
		if d.Ring {
			b[16] = 1
		}
		if s := Text(d); s != string(b) {
			t.Fatalf("Text(%+v): %q, wanted %q", d, s, b)
		}
		if v, e := Parse(string(b)); v != d || e != api.OK {
			t.Fatalf("Parse(%q): %+v, %d; wanted %+v", b, v, e, d)
		}
	}
}

func holdParse(t *testing.T, s string) {
	t.Helper()
	d, e := Parse(s)
	if len(s) == 17 && (s[16] == 0 || s[16] == 1) {
		if e != api.OK || Text(d) != s {
			t.Fatalf("Parse(%q): %+v, %d", s, d, e)
		}
		return
	}
	if d != (api.Dma{}) || e != api.ErrDmaForm {
		t.Fatalf("Parse(%q): %+v, %d; wanted an error alone", s, d, e)
	}
}

// P11.4: texts that end early, that have bytes more, that end with each byte, and any.
func TestParseAny(t *testing.T) {
	r := rand.New(rand.NewSource(119))
	for _, d := range someStates()[:200] {
		s := Text(d)
		for n := range len(s) {
			if _, e := Parse(s[:n]); e != api.ErrDmaForm {
				t.Fatalf("Parse(%q): %d", s[:n], e)
			}
			holdParse(t, s[n+1:])
		}
		for c := range 256 {
			last := string([]byte{byte(c)})
			holdParse(t, s[:16]+last)
			holdParse(t, s+last)
			holdParse(t, last+s)
			holdParse(t, last+s[1:])
		}
		holdParse(t, s+s)
	}
	for _, c := range []string{"\x00", "\x01", "\x02", "a", "\xff"} {
		for n := range 300 {
			holdParse(t, strings.Repeat(c, n))
		}
		holdParse(t, strings.Repeat(c, 1<<16))
	}
	for range 20000 {
		holdParse(t, anyBytes(r, r.Intn(40)))
		holdParse(t, anyBytes(r, 16)+string([]byte{byte(r.Intn(3))}))
	}
}

// P11.5: a move that is begun is done with the tenth Tick, once, whatever is written in between.
func TestTenthTick(t *testing.T) {
	r := rand.New(rand.NewSource(120))
	for round := range 400 {
		way := uint32(1 + round%2)
		d := api.Dma{Addr: r.Uint32(), Num: r.Uint32(), Ring: round%3 == 0}
		if round%5 == 0 {
			d.Way = r.Uint32()
		}
		d, _ = Write(d, 8, way)
		for n := 1; n <= 30; n++ {
			if n <= 10 && round%4 > 0 {
				d = writeAll(t, r, d)
			}
			rang := d.Ring
			var told uint32
			if d, told = Tick(d); told != 0 != (n == 10) || n == 10 && told != way {
				t.Fatalf("round %d, Tick %d: way %d", round, n, told)
			}
			if d.Busy != uint32(max(10-n, 0)) || n >= 10 && (d.Way != 0 || !d.Ring) || n < 10 && (d.Way != way || d.Ring != rang) {
				t.Fatalf("round %d, Tick %d: %+v", round, n, d)
			}
		}
	}
}

// writeAll writes any numbers to all registers of one whose move is begun: Busy and Way stay.
func writeAll(t *testing.T, r *rand.Rand, d api.Dma) api.Dma {
	t.Helper()
	addr, num := r.Uint32(), r.Uint32()
	want := api.Dma{Addr: addr, Num: num, Busy: d.Busy, Way: d.Way}
	d, _ = Write(d, 0, addr)
	d, _ = Write(d, 4, num)
	for _, v := range []uint32{0, 1, 2, 3, r.Uint32(), top} {
		d, _ = Write(d, 8, v)
	}
	if d, _ = Write(d, 12, r.Uint32()); d != want {
		t.Fatalf("%+v, wanted %+v", d, want)
	}
	return d
}

// P11.5: what is moved out and in again is what it was, in its own place or in another one, once or twice.
func TestOutAndIn(t *testing.T) {
	r := rand.New(rand.NewSource(121))
	for _, pages := range []int{4, 64} {
		for num := range uint32(16) {
			m, disk := filled(t, r, pages), anyBytes(r, 1024)
			from, to := uint32(64*r.Intn(4*pages)), uint32(64*r.Intn(4*pages))
			was := m.Image()
			out := holdMove(t, api.Dma{Addr: from, Num: num}, 2, m, disk)
			if again := holdMove(t, api.Dma{Addr: from, Num: num}, 2, m, out); again != out {
				t.Fatal("moved out twice")
			}
			holdMove(t, api.Dma{Addr: from, Num: num}, 1, m, out)
			if m.Image() != was {
				t.Fatal("out and in again is something else")
			}
			for range 2 {
				holdMove(t, api.Dma{Addr: to, Num: num}, 1, m, out)
				if m.Image() != spliced(was, int(to), was[from:from+64]) {
					t.Fatal("in at another place is something else")
				}
			}
			back := holdMove(t, api.Dma{Addr: to, Num: 15 - num}, 2, m, out)
			if back != spliced(out, int(64*(15-num)), out[64*num:64*num+64]) {
				t.Fatal("a sector moved to another one is something else")
			}
		}
	}
}

// The chapter's example, and what Tick tells is moved with the state that is then.
func TestExamples(t *testing.T) {
	m, _ := mem.New(4)
	disk := strings.Repeat("\x00", 192) + strings.Repeat("s", 64) + strings.Repeat("\x00", 768)
	d, _ := Write(api.Dma{}, 0, 128)
	d, _ = Write(d, 4, 3)
	d, e := Write(d, 8, 1)
	if d != (api.Dma{Addr: 128, Num: 3, Busy: 10, Way: 1}) || e != api.OK {
		t.Errorf("%+v, %d", d, e)
	}
	for n := range 9 {
		var way uint32
		if d, way = Tick(d); way != 0 || d.Ring {
			t.Errorf("Tick %d: %+v, %d", n+1, d, way)
		}
	}
	d, way := Tick(d)
	if d != (api.Dma{Addr: 128, Num: 3, Ring: true}) || way != 1 {
		t.Errorf("%+v, %d", d, way)
	}
	if s := Move(d, way, m, disk); s != disk {
		t.Error("another disk")
	}
	if m.Image() != strings.Repeat("\x00", 128)+strings.Repeat("s", 64)+strings.Repeat("\x00", 832) {
		t.Errorf("%q", m.Image())
	}
}
