package wal

import (
	"strings"
	"testing"

	"zoetrope/api"
	"zoetrope/disk"
)

// model is a log told in the plainest way: a disk of its own, on which it does the steps that the chapter tells, one by one.
type model struct {
	d      *disk.Disk
	number int
	isDead bool
}

// flush stands in a row of steps for a Flush; all other ones are writes.
var flush = api.Cell{N: -1}

func done(d *disk.Disk, steps []api.Cell) api.Errno {
	for _, x := range steps {
		err := d.Flush
		if x.N >= 0 {
			err = func() api.Errno { return d.Write(x.N, x.S) }
		}
		if e := err(); e != 0 {
			return e
		}
	}
	return 0
}

func formatSteps() []api.Cell {
	return []api.Cell{{N: 0, S: strings.Repeat("\x00", 64)}, {N: 1, S: laid(1, nil, 0xffff)}, flush}
}

func commitSteps(number int, cells []api.Cell) []api.Cell {
	var room, places []api.Cell
	var numbers []int
	bytes := ""
	for i, c := range cells {
		room = append(room, api.Cell{N: 2 + 16*(number%2) + i, S: c.S})
		places = append(places, api.Cell{N: 34 + c.N, S: c.S})
		numbers = append(numbers, c.N)
		bytes += c.S
	}
	head := api.Cell{N: number % 2, S: laid(number, numbers, plainSum(bytes))}
	return append(append(append(room, flush, head, flush), places...), flush)
}

func isOfSize(d *disk.Disk) bool { return d.Sectors() > 41 && d.Sectors() < 4035 }

func modelFormat(d *disk.Disk) (*model, api.Errno) {
	if !isOfSize(d) {
		return nil, 190
	}
	if err := done(d, formatSteps()); err != 0 {
		return nil, err
	}
	return &model{d: d, number: 1}, 0
}

func modelOpen(d *disk.Disk) (*model, api.Errno) {
	if !isOfSize(d) {
		return nil, 190
	}
	if d.Dead() {
		return nil, 2
	}
	number, steps, err := found(d)
	if err != 0 {
		return nil, err
	}
	if err := done(d, steps); err != 0 {
		return nil, err
	}
	return &model{d: d, number: number}, 0
}

// found is the number of the last change that a disk has, and the steps by which it is made anew.
func found(d *disk.Disk) (int, []api.Cell, api.Errno) {
	best, bestHead := 0, ""
	for place := range 2 {
		s, _ := d.Read(place)
		if isRight(s, place, d.Sectors()-34) && numberAt(s, 2, 4) > best {
			best, bestHead = numberAt(s, 2, 4), s
		}
	}
	if best == 0 {
		return 0, nil, 190
	}
	bytes := ""
	var steps []api.Cell
	for i := range numberAt(bestHead, 6, 1) {
		s, _ := d.Read(2 + 16*(best%2) + i)
		steps = append(steps, api.Cell{N: 34 + numberAt(bestHead, 7+2*i, 2), S: s})
		bytes += s
	}
	if int(plainSum(bytes)) != numberAt(bestHead, 39, 2) {
		return 0, nil, 232
	}
	return best, append(steps, flush), 0
}

func (o *model) sectors() int { return o.d.Sectors() - 34 }

func (o *model) clone() *model { return &model{o.d.Clone(), o.number, o.isDead} }

func (o *model) read(n int) (string, api.Errno) {
	if n < 0 || n >= o.sectors() {
		return "", 1
	}
	if o.isDead {
		return "", 2
	}
	s, err := o.d.Read(n + 34)
	o.isDead = err != 0
	return s, err
}

func (o *model) commit(cells []api.Cell) api.Errno {
	switch {
	case len(cells) > 16 || o.number == 4294967295:
		return 191
	case !areCells(cells, o.sectors()):
		return 1
	case o.isDead:
		return 2
	}
	if err := done(o.d, commitSteps(o.number+1, cells)); err != 0 {
		o.isDead = true
		return err
	}
	o.number++
	return 0
}

func areCells(cells []api.Cell, own int) bool {
	for i, c := range cells {
		if c.N < 0 || c.N >= own || len(c.S) != 64 || i > 0 && c.N <= cells[i-1].N {
			return false
		}
	}
	return true
}

// numberAt is a number of some bytes, the highest first.
func numberAt(s string, at, size int) int {
	n := 0
	for i := range size {
		n = 256*n + int(s[at+i])
	}
	return n
}

// isRight goes by the places of a head's bytes.
func isRight(s string, place, own int) bool {
	number, count := numberAt(s, 2, 4), numberAt(s, 6, 1)
	if s[:2] != "ZW" || number == 0 || number%2 != place || numberAt(s, 58, 4) != number || count > 16 {
		return false
	}
	if strings.Trim(s[7+2*count:39]+s[41:58], "\x00") != "" || int(plainSum(s[:62])) != numberAt(s, 62, 2) {
		return false
	}
	last := -1
	for i := range count {
		n := numberAt(s, 7+2*i, 2)
		if n <= last || n >= own {
			return false
		}
		last = n
	}
	return true
}

// laid are a head's bytes, set at their places.
func laid(number int, cells []int, sum uint16) string {
	b := make([]byte, 62)
	b[0], b[1], b[6] = 'Z', 'W', byte(len(cells))
	for i := range 4 {
		b[2+i] = byte(number >> (24 - 8*i))
		b[58+i] = b[2+i]
	}
	for i, n := range cells {
		b[7+2*i], b[8+2*i] = byte(n/256), byte(n%256)
	}
	b[39], b[40] = byte(sum/256), byte(sum%256)
	return sealed(string(b))
}

func sealed(s string) string {
	sum := plainSum(s)
	return s + string([]byte{byte(sum / 256), byte(sum % 256)})
}

// plainSum is the sum of sixteen bits, bit by bit of the text.
func plainSum(s string) uint16 {
	sum := 0xffff
	for _, b := range []byte(s) {
		for i := range 8 {
			isOdd := (sum>>15^int(b)>>(7-i))&1 == 1
			sum = sum * 2 % 65536
			if isOdd {
				sum ^= 0x1021
			}
		}
	}
	return uint16(sum)
}

// hold holds all that a log tells, and its disk, against the model; it reads a few of its sectors.
func (o *model) hold(t *testing.T, l *Log, d *disk.Disk) {
	t.Helper()
	holdDisk(t, d, o.d)
	if l.Sectors() != o.sectors() || l.Number() != o.number || l.Dead() != o.isDead {
		t.Fatalf("Sectors %d, Number %d, Dead %v, wanted %d, %d, %v", l.Sectors(), l.Number(), l.Dead(), o.sectors(), o.number, o.isDead)
	}
}

func holdDisk(t *testing.T, d, want *disk.Disk) {
	t.Helper()
	if d.Image() != want.Image() {
		t.Fatalf("another image: %q, wanted %q", d.Image(), want.Image())
	}
	if d.Steps() != want.Steps() || d.Dead() != want.Dead() {
		t.Fatalf("Steps %d, Dead %v, wanted %d, %v", d.Steps(), d.Dead(), want.Steps(), want.Dead())
	}
}

// holdReads holds what is read of each sector, and of some that there are not, against the model.
func (o *model) holdReads(t *testing.T, l *Log) {
	t.Helper()
	for n := -2; n < o.sectors()+2; n++ {
		got, err := l.Read(n)
		if want, wantErr := o.read(n); got != want || err != wantErr {
			t.Fatalf("Read(%d): %q, %d, wanted %q, %d", n, got, err, want, wantErr)
		}
	}
}

func hold(t *testing.T, err, want api.Errno) {
	t.Helper()
	if err != want {
		t.Fatalf("error %d, wanted %d", err, want)
	}
}

func fill(s string) string { return strings.Repeat(s, 64) }

func cell(n int, s string) api.Cell { return api.Cell{N: n, S: fill(s)} }

func blank(t *testing.T, sectors int) *disk.Disk {
	t.Helper()
	d, err := disk.New(sectors)
	hold(t, err, api.OK)
	return d
}

func imaged(t *testing.T, image string) *disk.Disk {
	t.Helper()
	d, err := disk.Open(image)
	hold(t, err, api.OK)
	return d
}

func formatted(t *testing.T, sectors int) (*Log, *disk.Disk) {
	t.Helper()
	d := blank(t, sectors)
	l, err := Format(d)
	hold(t, err, api.OK)
	return l, d
}

func opened(t *testing.T, d *disk.Disk) *Log {
	t.Helper()
	l, err := Open(d)
	hold(t, err, api.OK)
	return l
}

// holdNone holds that a disk opens with an error, without a log, and that nothing was written to it.
func holdNone(t *testing.T, d *disk.Disk, want api.Errno) {
	t.Helper()
	image, steps := d.Image(), d.Steps()
	l, err := Open(d)
	if l != nil || err != want || d.Image() != image || d.Steps() != steps {
		t.Fatalf("%v, %d, Steps %d, wanted none, %d, %d", l, err, d.Steps(), want, steps)
	}
}

// with is a text with some of its bytes as other ones.
func with(s string, at int, piece string) string { return s[:at] + piece + s[at+len(piece):] }

// holdOwn holds a log's first sectors, each told by the byte that it is full of.
func holdOwn(t *testing.T, l *Log, want string) {
	t.Helper()
	for n := range len(want) {
		got, err := l.Read(n)
		hold(t, err, api.OK)
		if got != fill(want[n:n+1]) {
			t.Fatalf("sector %d: %q, wanted %q", n, got, want[n:n+1])
		}
	}
}
