package disk

import (
	"strings"
	"testing"

	"zoetrope/api"
)

// write is one of a model's loose ones.
type write struct {
	n int
	s string
}

// model is a disk told in the plainest way: a row of texts, and a row of what was written since the last Flush.
type model struct {
	sectors []string
	row     []write
	isDead  bool
	steps   int
	toGo    int // 0: not armed
	crash   api.Crash
}

func newModel(image string) *model {
	o := &model{}
	for ; image != ""; image = image[64:] {
		o.sectors = append(o.sectors, image[:64])
	}
	return o
}

func (o *model) clone() *model {
	other := *o
	other.sectors = append([]string{}, o.sectors...)
	other.row = append([]write{}, o.row...)
	return &other
}

func (o *model) read(n int) (string, api.Errno) {
	if o.isDead {
		return "", 2
	}
	if n < 0 || n >= len(o.sectors) {
		return "", 181
	}
	s := o.sectors[n]
	for _, w := range o.row {
		if w.n == n {
			s = w.s
		}
	}
	return s, 0
}

func (o *model) write(n int, s string) api.Errno {
	switch {
	case o.isDead:
		return 2
	case n < 0 || n >= len(o.sectors):
		return 181
	case len(s) != 64:
		return 1
	}
	o.row = append(o.row, write{n, s})
	if o.isLastStep() {
		o.goOut(o.crash)
		return 2
	}
	return 0
}

func (o *model) flush() api.Errno {
	if o.isDead {
		return 2
	}
	if o.isLastStep() {
		o.goOut(o.crash)
		return 2
	}
	for _, w := range o.row {
		o.sectors[w.n] = w.s
	}
	o.row = nil
	return 0
}

func (o *model) arm(step int, c api.Crash) api.Errno {
	switch {
	case o.isDead:
		return 2
	case step < 0:
		return 1
	}
	o.toGo, o.crash = step, c
	return 0
}

func (o *model) crashNow(c api.Crash) api.Errno {
	if o.isDead {
		return 2
	}
	o.goOut(c)
	return 0
}

func (o *model) revive() { o.isDead, o.toGo = false, 0 }

// isLastStep counts a step.
func (o *model) isLastStep() bool {
	o.steps++
	if o.toGo == 0 {
		return false
	}
	o.toGo--
	return o.toGo == 0
}

// goOut goes over the bytes of each loose write one by one.
func (o *model) goOut(c api.Crash) {
	bits := bitsOf(c.Keep)
	for i, w := range o.row {
		b := []byte(o.sectors[w.n])
		for k := range b {
			isKept := i < len(bits) && bits[i]
			if i == c.Torn {
				isKept = k < c.Bytes
			}
			if isKept {
				b[k] = w.s[k]
			}
		}
		o.sectors[w.n] = string(b)
	}
	o.row, o.toGo, o.isDead = nil, 0, true
}

func bitsOf(keep string) []bool {
	var l []bool
	for _, b := range []byte(keep) {
		for range 8 {
			l = append(l, b%2 == 1)
			b /= 2
		}
	}
	return l
}

// hold holds all that a disk tells against the model.
func (o *model) hold(t *testing.T, d *Disk) {
	t.Helper()
	if d.Image() != strings.Join(o.sectors, "") {
		t.Fatalf("Image: %q, wanted %q", d.Image(), o.sectors)
	}
	if d.Sectors() != len(o.sectors) || d.Dead() != o.isDead || d.Steps() != o.steps {
		t.Fatalf("Sectors %d, Dead %v, Steps %d, wanted %d, %v, %d", d.Sectors(), d.Dead(), d.Steps(), len(o.sectors), o.isDead, o.steps)
	}
	for n := -1; n <= len(o.sectors); n++ {
		got, err := d.Read(n)
		if want, wantErr := o.read(n); got != want || err != wantErr {
			t.Fatalf("Read(%d): %q, %d, wanted %q, %d", n, got, err, want, wantErr)
		}
	}
}
