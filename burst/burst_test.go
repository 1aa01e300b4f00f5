package burst_test

import (
	"bytes"
	"errors"
	"fmt"
	"math"
	"slices"
	"testing"

	"triumvir/api"
	"triumvir/burst"
)

// first is a burst's greatest bit, last its least one.
const first, last = uint32(1) << 31, uint32(1)

// refused fails unless it is ErrArg, and no bytes are told.
func refused(t *testing.T, b []byte, at int, what uint32) {
	t.Helper()
	l, err := burst.Of(b, at, what)
	var place *api.At
	if len(l) != 0 || api.Tell(err) != api.ErrArg || errors.As(err, &place) {
		t.Errorf("%08x at %d of %d bytes: %x, %v", what, at, len(b), l, err)
	}
}

// turns fails unless just these bits are other ones.
func turns(t *testing.T, b []byte, at int, what uint32, places ...int) {
	t.Helper()
	want := []byte(binary(b))
	for _, p := range places {
		want[p] ^= 1
	}
	l, err := burst.Of(b, at, what)
	if err != nil || binary(l) != string(want) {
		t.Errorf("%08x at %d of %s: %s, %v; not %s", what, at, binary(b), binary(l), err, want)
	}
}

// binary is bytes as bits, each byte's greatest one first.
func binary(b []byte) string {
	s := ""
	for _, x := range b {
		s += fmt.Sprintf("%08b", x)
	}
	return s
}

func TestWhichBitsAreOtherOnes(t *testing.T) {
	turns(t, []byte{0}, 0, first, 0)
	turns(t, []byte{0}, 7, first, 7)
	turns(t, []byte{0, 0}, 7, first|first>>1, 7, 8)
	turns(t, []byte{0, 0}, 8, first, 8)
	turns(t, []byte{255, 255}, 3, 0xa8000000, 3, 5, 7)
	turns(t, []byte{1, 2, 3, 4}, 0, last, 31)
	turns(t, []byte{1, 2, 3, 4, 5}, 8, first|last, 8, 39)
	turns(t, make([]byte, 80), 608, first|last, 608, 639)
	turns(t, make([]byte, 80), 639, first, 639)
	l, err := burst.Of([]byte{0, 255, 0, 255, 16}, 4, 0xfff0000f)
	if want := []byte{0x0f, 0x00, 0x00, 0xff, 0xe0}; err != nil || !bytes.Equal(l, want) {
		t.Errorf("%x, %v, not %x", l, err, want)
	}
}

func TestEachBitAtEachPlace(t *testing.T) {
	b := []byte{0x00, 0xff, 0x5a, 0x13, 0x80, 0x01, 0x7e, 0xa5}
	for at := -40; at < 8*len(b)+40; at++ {
		for i := range 32 {
			if what := first >> i; at >= 0 && at+i < 8*len(b) {
				turns(t, b, at, what, at+i)
			} else {
				refused(t, b, at, what)
			}
		}
	}
}

func TestItsPlaceIsOneOfTheBits(t *testing.T) {
	for n := range 82 {
		b := make([]byte, n)
		for _, at := range []int{math.MinInt, math.MinInt + 31, -32, -31, -2, -1, 8 * n, 8*n + 1, 8*n + 31, math.MaxInt - 31, math.MaxInt - 30, math.MaxInt} {
			for _, what := range []uint32{first, last, first | last, 2, math.MaxUint32} {
				refused(t, b, at, what)
			}
		}
	}
	refused(t, nil, 0, first)
}

func TestABurstHasABit(t *testing.T) {
	for n := range 82 {
		for _, at := range []int{-1, 0, 1, 8*n - 1, 8 * n} {
			refused(t, make([]byte, n), at, 0)
		}
	}
}

func TestABurstEndsWithinTheBytes(t *testing.T) {
	for _, n := range []int{4, 5, 13, 19, 22, 64, 80} {
		b := make([]byte, n)
		end := 8 * n
		turns(t, b, end-1, first, end-1)
		refused(t, b, end-1, first|first>>1)
		refused(t, b, end-1, first>>1)
		turns(t, b, end-32, last, end-1)
		refused(t, b, end-31, last)
		turns(t, b, end-31, 2, end-1)
		refused(t, b, end-31, 3)
		refused(t, b, end-31, first|last)
		turns(t, b, end-31, first|2, end-31, end-1)
	}
}

func TestDrawnBursts(t *testing.T) {
	n := uint64(5)
	drawn := func() uint32 {
		n = n*6364136223846793005 + 1442695040888963407
		return uint32(n >> 32)
	}
	for range 20000 {
		b := make([]byte, drawn()%81)
		for i := range b {
			b[i] = byte(drawn() >> 8)
		}
		at, what := int(drawn()>>4%700)-20, drawn()<<(drawn()>>5%32)
		var places []int
		for i := range 32 {
			if what&(first>>i) != 0 {
				places = append(places, at+i)
			}
		}
		outside := func(p int) bool { return p < 0 || p >= 8*len(b) }
		if what == 0 || outside(at) || slices.ContainsFunc(places, outside) {
			refused(t, b, at, what)
		} else {
			turns(t, b, at, what, places...)
		}
	}
}

func TestTheBytesAreFresh(t *testing.T) {
	memory := []byte{1, 2, 3, 4, 5, 6, 7, 8}
	b := memory[:4]
	l, err := burst.Of(b, 0, math.MaxUint32)
	if err != nil || !bytes.Equal(memory, []byte{1, 2, 3, 4, 5, 6, 7, 8}) {
		t.Fatalf("%v became of what was handed in, %v", memory, err)
	}
	for i := range l {
		l[i] = 99
	}
	b[0] = 77
	if again, _ := burst.Of(b, 8, first); !bytes.Equal(again, []byte{77, 130, 3, 4}) {
		t.Errorf("%v", again)
	}
	if !bytes.Equal(l, []byte{99, 99, 99, 99}) || memory[4] != 5 {
		t.Errorf("%v, %v", l, memory)
	}
}
