package frame_test

import (
	"errors"
	"math"
	"testing"

	"triumvir/api"
	"triumvir/frame"
)

// kinds are all of them.
var kinds = []int{frame.Sample, frame.Vote, frame.Done, frame.Ask, frame.Known}

// is fails unless an error is just that one: without an At around it.
func is(t *testing.T, what string, err error, want api.Errno) {
	t.Helper()
	if got := api.Tell(err); got != want {
		t.Errorf("%s: error %d, not %d", what, got, want)
	}
	var at *api.At
	if errors.As(err, &at) {
		t.Errorf("%s: an At in the error", what)
	}
}

// refused fails unless Encode tells ErrArg, and no bytes.
func refused(t *testing.T, f frame.Frame) {
	t.Helper()
	b, err := frame.Encode(f)
	if len(b) != 0 {
		t.Errorf("Encode of %v: bytes %x", f, b)
	}
	if api.Tell(err) != api.ErrArg {
		t.Errorf("Encode of %v: error %d", f, api.Tell(err))
	}
}

// encoded is a frame's bytes.
func encoded(t *testing.T, f frame.Frame) []byte {
	t.Helper()
	b, err := frame.Encode(f)
	if err != nil {
		t.Fatalf("Encode of %v: error %d", f, api.Tell(err))
	}
	return b
}

// comesBack fails unless Decode tells of a frame's bytes that frame.
func comesBack(t *testing.T, f frame.Frame) {
	t.Helper()
	if got, err := frame.Decode(encoded(t, f)); err != nil || got != f {
		t.Errorf("Decode of %v: %v, error %d", f, got, api.Tell(err))
	}
}

// noFrame fails unless Decode tells that error, and the zero frame.
func noFrame(t *testing.T, what string, b []byte, want api.Errno) {
	t.Helper()
	f, err := frame.Decode(b)
	is(t, "Decode of "+what, err, want)
	if f != (frame.Frame{}) {
		t.Errorf("Decode of %s: %v beside an error", what, f)
	}
}

// summed is bytes with their sum behind them, by the sum of this test.
func summed(b []byte) []byte {
	n := toldSum(b)
	return append(append([]byte{}, b...), byte(n>>24), byte(n>>16), byte(n>>8), byte(n))
}

// written is numbers, three bytes each, with their sum behind them.
func written(l ...int) []byte {
	var b []byte
	for _, n := range l {
		b = append(b, byte(n/65536%256), byte(n/256%256), byte(n%256))
	}
	return summed(b)
}

// places are all numbers of a frame but its kind: From, Cycle, Clear, Wanted, Out, Set, then Used and Idle in turn.
func places(f *frame.Frame) []*int {
	l := []*int{&f.From, &f.Cycle, &f.In.Clear, &f.In.Wanted, &f.Out, &f.State.Set}
	for i := range api.MaxRoutes {
		l = append(l, &f.State.Used[i], &f.State.Idle[i])
	}
	return l
}

// The first places.
const (
	atFrom = iota
	atCycle
	atClear
	atWanted
	atOut
	atSet
)

// has says whether a kind has the number at a place.
func has(kind, place int) bool {
	switch place {
	case atFrom, atCycle:
		return true
	case atClear, atWanted:
		return kind == frame.Sample || kind == frame.Vote || kind == frame.Done
	case atOut:
		return kind == frame.Vote || kind == frame.Done
	}
	return kind == frame.Known
}

// filled is a frame of which all that its kind has is drawn by a rule.
func filled(kind int, number func(place int) int) frame.Frame {
	f := frame.Frame{Kind: kind}
	for place, p := range places(&f) {
		if has(kind, place) {
			*p = number(place)
		}
	}
	return f
}

// die: numbers that look drawn, the same each time.
type die uint64

func (d *die) upTo(n int) int {
	*d = *d*6364136223846793005 + 1442695040888963407
	return int(uint64(*d>>33) % uint64(n))
}

// number is one that a frame may have, often at an edge.
func (d *die) number() int {
	edges := []int{0, 1, 255, 256, 65535, 65536, api.MaxNumber - 1, api.MaxNumber}
	if d.upTo(3) == 0 {
		return edges[d.upTo(len(edges))]
	}
	return d.upTo(api.MaxNumber + 1)
}

// frame is one that may be.
func (d *die) frame() frame.Frame {
	return filled(kinds[d.upTo(len(kinds))], func(place int) int {
		if place == atFrom {
			return d.upTo(api.Voter + 1)
		}
		return d.number()
	})
}

// bytes are so many, drawn.
func (d *die) bytes(n int) []byte {
	b := make([]byte, n)
	for i := range b {
		b[i] = byte(d.upTo(256))
	}
	return b
}

// farOff are numbers that may stand nowhere in a frame; some of them are others, if only their last bytes are taken.
var farOff = []int{-1, -2, api.MaxNumber + 1, 1<<24 - 1, 1 << 24, 1<<24 + 1, 1 << 32, 1<<32 + 1, math.MaxInt, math.MinInt, math.MinInt + 1}
