package frame_test

import (
	"bytes"
	"fmt"
	"slices"
	"testing"

	"triumvir/api"
	"triumvir/frame"
)

func TestDecodeOfTooFewBytes(t *testing.T) {
	d := die(33)
	noFrame(t, "nil", nil, api.ErrForm)
	noFrame(t, "no bytes", []byte{}, api.ErrForm)
	for n := range 7 {
		noFrame(t, fmt.Sprint(n, " noughts"), make([]byte, n), api.ErrForm)
		noFrame(t, fmt.Sprint(n, " drawn bytes"), d.bytes(n), api.ErrForm)
	}
	// A right sum makes no frame of them.
	for n := range 3 {
		noFrame(t, fmt.Sprint(n, " bytes and their sum"), summed(d.bytes(n)), api.ErrForm)
	}
}

func TestDecodeOfTooManyBytes(t *testing.T) {
	d := die(34)
	for _, n := range []int{api.MaxFrame + 1, api.MaxFrame + 2, 100, 256, 1 << 16} {
		noFrame(t, fmt.Sprint(n, " drawn bytes"), d.bytes(n), api.ErrForm)
		noFrame(t, fmt.Sprint(n, " bytes, with a right sum"), summed(d.bytes(n-4)), api.ErrForm)
	}
	known := encoded(t, filled(frame.Known, func(int) int { return 1 }))
	noFrame(t, "a Known and noughts", append(known, make([]byte, 17)...), api.ErrForm)
}

func TestSpoiltIsToldAheadOfTheForm(t *testing.T) {
	d := die(35)
	for n := 7; n <= api.MaxFrame; n++ {
		b := summed(d.bytes(n - 4))
		noFrame(t, fmt.Sprint(n, " bytes, with a right sum"), b, api.ErrForm)
		for i := n - 4; i < n; i++ {
			spoilt := slices.Clone(b)
			spoilt[i] ^= 1 << d.upTo(8)
			noFrame(t, fmt.Sprint(n, " bytes, with a wrong sum"), spoilt, api.ErrSpoilt)
		}
	}
}

func TestDecodeOfAWrongSum(t *testing.T) {
	for _, c := range writtenFrames() {
		b := encoded(t, c.f)
		for i := range 8 * len(b) {
			spoilt := slices.Clone(b)
			spoilt[i/8] ^= 128 >> (i % 8)
			noFrame(t, fmt.Sprint(c.f, " with another bit ", i), spoilt, api.ErrSpoilt)
		}
		sumTurned := slices.Clone(b)
		slices.Reverse(sumTurned[len(b)-4:])
		noFrame(t, fmt.Sprint(c.f, " with its sum turned round"), sumTurned, api.ErrSpoilt)
		none := append(slices.Clone(b[:len(b)-4]), 0, 0, 0, 0)
		noFrame(t, fmt.Sprint(c.f, " with noughts for a sum"), none, api.ErrSpoilt)
	}
}

// howMany are the numbers of each kind.
var howMany = map[int]int{frame.Sample: 5, frame.Vote: 6, frame.Done: 6, frame.Ask: 3, frame.Known: 20}

func TestLengthsThatAreNotAKinds(t *testing.T) {
	for _, kind := range kinds {
		for n := 1; 3*n+4 <= api.MaxFrame; n++ {
			for _, number := range []int{0, 1} {
				l := slices.Repeat([]int{number}, n)
				l[0] = kind
				b := written(l...)
				if n != howMany[kind] {
					noFrame(t, fmt.Sprint(n, " numbers of kind ", kind), b, api.ErrForm)
				} else if f, err := frame.Decode(b); err != nil || f.Kind != kind {
					t.Errorf("Decode of %d numbers of kind %d: %v, error %d", n, kind, f, api.Tell(err))
				}
			}
		}
	}
}

func TestLengthsThatAreNotOfThrees(t *testing.T) {
	for _, c := range writtenFrames() {
		b := encoded(t, c.f)
		told := b[:len(b)-4]
		for _, other := range [][]byte{
			append(slices.Clone(told), 0),
			append(slices.Clone(told), 0, 0),
			append(slices.Clone(told), 1, 2),
			append([]byte{0}, told...),
			told[:len(told)-1],
			told[:len(told)-2],
			told[1:],
		} {
			noFrame(t, fmt.Sprintf("%x and its sum", other), summed(other), api.ErrForm)
		}
	}
}

func TestNumbersThatMayNotBe(t *testing.T) {
	for _, kind := range kinds {
		for place := 1; place < howMany[kind]; place++ {
			l := make([]int, howMany[kind])
			l[0] = kind
			most := api.MaxNumber
			if place == 1 {
				most = api.Voter
			}
			l[place] = most
			if _, err := frame.Decode(written(l...)); err != nil {
				t.Errorf("Decode of %v: error %d", l, api.Tell(err))
			}
			for _, number := range []int{most + 1, most + 2, api.MaxNumber + 1, 1 << 21, 1 << 23, 1<<24 - 1} {
				l[place] = number
				noFrame(t, fmt.Sprint(l), written(l...), api.ErrForm)
			}
		}
	}
}

func TestKindsThatMayNotBe(t *testing.T) {
	for _, kind := range []int{0, 6, 7, 255, 256, 257, 65536, 65537, api.MaxNumber, 1<<24 - 1} {
		for _, n := range []int{1, 2, 3, 4, 5, 6, 20, 25} {
			l := make([]int, n)
			l[0] = kind
			noFrame(t, fmt.Sprint(l), written(l...), api.ErrForm)
		}
	}
}

func TestDecodeTellsEachFrame(t *testing.T) {
	d := die(36)
	for range 5000 {
		comesBack(t, d.frame())
	}
}

func TestNoBeginningOfAFrameIsOne(t *testing.T) {
	d := die(37)
	for range 500 {
		f := d.frame()
		b := encoded(t, f)
		for n := range b {
			got, err := frame.Decode(b[:n])
			errno := api.Tell(err)
			if n < 7 && errno != api.ErrForm || errno != api.ErrForm && errno != api.ErrSpoilt || got != (frame.Frame{}) {
				t.Errorf("Decode of the first %d bytes of %v: %v, error %d", n, f, got, errno)
			}
			if n >= 4 {
				noFrame(t, fmt.Sprint("a beginning of ", f, " and its sum"), summed(b[:n-4]), api.ErrForm)
			}
		}
	}
}

func TestWhatDecodeTellsIsWhatEncodeWrote(t *testing.T) {
	d := die(38)
	told := 0
	for range 20_000 {
		l := make([]int, []int{3, 5, 6, 20}[d.upTo(4)])
		for i := range l {
			l[i] = d.upTo(7)
		}
		// Now and then a number is great, else few would be frames.
		if d.upTo(3) == 0 {
			l[d.upTo(len(l))] = d.upTo(1 << 24)
		}
		b := written(l...)
		f, err := frame.Decode(b)
		if err != nil {
			noFrame(t, fmt.Sprint(l), b, api.ErrForm)
			continue
		}
		told++
		if !bytes.Equal(encoded(t, f), b) {
			t.Errorf("Decode of %x: %v, which is other bytes", b, f)
		}
	}
	if told < 1000 {
		t.Errorf("only %d were frames", told)
	}
}

// handedIn are bytes of all sorts: frames, spoilt ones, and what is none.
func handedIn(t *testing.T) [][]byte {
	l := [][]byte{nil, {1, 2, 3}, written(0, 0, 0), written(2, 1), make([]byte, 80), make([]byte, 81)}
	for _, c := range writtenFrames() {
		b := encoded(t, c.f)
		spoilt := slices.Clone(b)
		spoilt[5] ^= 8
		l = append(l, b, spoilt)
	}
	return l
}

func TestNoListIsWrittenInto(t *testing.T) {
	for _, b := range handedIn(t) {
		// What stands behind the list's length must stay, too.
		memory := append(slices.Clone(b), 77, 78, 79, 80, 81, 82, 83, 84)
		before := slices.Clone(memory)
		frame.Sum(memory[:len(b)])
		frame.Decode(memory[:len(b)])
		if !bytes.Equal(memory, before) {
			t.Errorf("%x became %x", before, memory)
		}
	}
}

func TestWhatStandsBehindTheLengthCountsForNothing(t *testing.T) {
	for _, b := range handedIn(t) {
		memory := append(slices.Clone(b), 77, 78, 79, 80, 81, 82, 83, 84)
		short := memory[:len(b)]
		if frame.Sum(short) != frame.Sum(b) {
			t.Errorf("Sum of %x is another one with bytes behind it", b)
		}
		f, err := frame.Decode(b)
		if g, other := frame.Decode(short); f != g || api.Tell(err) != api.Tell(other) {
			t.Errorf("Decode of %x is another one with bytes behind it", b)
		}
	}
}

func TestNoListIsKept(t *testing.T) {
	for _, c := range writtenFrames() {
		b := encoded(t, c.f)
		before := slices.Clone(b)
		f, err := frame.Decode(b)
		for i := range b {
			b[i] = 99
		}
		if err != nil || f != c.f {
			t.Errorf("Decode of %x: %v, error %d", before, f, api.Tell(err))
		}
		noFrame(t, "bytes that became others", b, api.ErrSpoilt)
		if again, err := frame.Decode(before); err != nil || again != c.f {
			t.Errorf("Decode of %x, anew: %v, error %d", before, again, api.Tell(err))
		}
	}
}
