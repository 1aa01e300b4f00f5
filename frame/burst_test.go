package frame_test

import (
	"slices"
	"testing"

	"triumvir/api"
	"triumvir/frame"
)

// flipped is bytes of which bits from a place on are other ones: those of what, its bit 31 at that place, the next one behind it, and so on.
func flipped(b []byte, at int, what uint32) []byte {
	out := slices.Clone(b)
	for i := range 32 {
		if what>>(31-i)&1 == 1 {
			out[(at+i)/8] ^= 128 >> ((at + i) % 8)
		}
	}
	return out
}

// seen fails unless Decode tells an error of such bits. It has to be ErrSpoilt: as many bytes are there as before, and their sum can't be right.
func seen(t *testing.T, f frame.Frame, b []byte, at int, what uint32) {
	t.Helper()
	got, err := frame.Decode(flipped(b, at, what))
	if api.Tell(err) != api.ErrSpoilt || got != (frame.Frame{}) {
		t.Errorf("Decode of %v, other bits %08x at %d: %v, error %d", f, what, at, got, api.Tell(err))
	}
}

// burst is drawn bits of just that width: the first and the last one are other ones.
func (d *die) burst(width int) uint32 {
	between := uint32(d.upTo(1<<16))<<16 | uint32(d.upTo(1<<16))
	all := uint32(1<<width-1) << (32 - width)
	return between&all | 1<<31 | 1<<(32-width)
}

func TestABurstIsSeen(t *testing.T) {
	d := die(39)
	for range 60 {
		f := d.frame()
		b := encoded(t, f)
		for at := range 8 * len(b) {
			for width := 1; width <= 32 && at+width <= 8*len(b); width++ {
				seen(t, f, b, at, d.burst(width))
			}
		}
	}
}

func TestABurstOfAllBitsIsSeen(t *testing.T) {
	for _, c := range writtenFrames() {
		b := encoded(t, c.f)
		for at := range 8 * len(b) {
			for width := 1; width <= 32 && at+width <= 8*len(b); width++ {
				seen(t, c.f, b, at, uint32(1<<width-1)<<(32-width))
				seen(t, c.f, b, at, 1<<31|1<<(32-width))
			}
		}
	}
}

func TestABurstThatTurnsOneFramesNumbersIntoAnothersIsSeen(t *testing.T) {
	d := die(40)
	for range 300 {
		f := d.frame()
		b := encoded(t, f)
		// A replica for another one, the next cycle, another kind of the same length: none of these is seen but by the sum.
		seen(t, f, b, 40, 1<<(24+d.upTo(2)))
		seen(t, f, b, 64, 1<<24)
		seen(t, f, b, 16, uint32(frame.Vote^frame.Done)<<24)
		seen(t, f, b, 8*len(b)-32, uint32(1+d.upTo(1<<31-1)))
	}
}

func TestManyDrawnFramesWithABurst(t *testing.T) {
	d := die(41)
	for range 20_000 {
		f := d.frame()
		b := encoded(t, f)
		width := 1 + d.upTo(32)
		seen(t, f, b, d.upTo(8*len(b)-width+1), d.burst(width))
	}
}
