// Package burst: bits within 32 that follow each other are other ones.
package burst

import (
	"math/bits"
	"slices"

	"triumvir/api"
)

// width is how many bits a burst goes over, at most.
const width = 32

// Of is bytes of which those bits are other ones that are in what: its greatest one is at bit at (bit 0 is the first byte's greatest one), the next one behind it, and so on. ErrArg: at is not one of its bits, what is 0, or goes beyond its end.
func Of(b []byte, at int, what uint32) ([]byte, error) {
	if !within(8*len(b), at, what) {
		return nil, api.ErrArg
	}
	l := slices.Clone(b)
	for i := range width {
		if what<<i>>(width-1) == 1 {
			l[(at+i)/8] ^= 128 >> ((at + i) % 8)
		}
	}
	return l, nil
}

// within says whether there is a bit in what, and all of them are among so many.
func within(many, at int, what uint32) bool {
	if at < 0 || at >= many || what == 0 {
		return false
	}
	// Noughts behind its last bit may go beyond the end: they change nothing.
	last := at + width - 1 - bits.TrailingZeros32(what)
	return last < many
}
