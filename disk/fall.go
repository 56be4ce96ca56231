package disk

import (
	"strings"

	"zoetrope/api"
)

// staying tells how many bytes of the i-th loose write stay.
type staying func(i int) int

// whole is the staying of a Flush.
func whole(int) int { return api.Sector }

// fall is how the power goes. Its staying is handed on as a method value: bound to no disk, so that a disk's clone may have the same.
type fall struct{ crash api.Crash }

func fallOf(c api.Crash) fall {
	c.Keep = strings.Clone(c.Keep)
	return fall{c}
}

func (f fall) stays(i int) int {
	if i == f.crash.Torn {
		return min(max(f.crash.Bytes, 0), api.Sector)
	}
	if f.isKept(i) {
		return api.Sector
	}
	return 0
}

func (f fall) isKept(i int) bool {
	place := i / 8
	return place < len(f.crash.Keep) && f.crash.Keep[place]>>(i%8)&1 == 1
}
