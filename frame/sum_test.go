package frame_test

import (
	"bytes"
	"hash/crc32"
	"math/bits"
	"testing"

	"triumvir/frame"
)

// toldSum is promise 3.1 told bit by bit: 32 bits, the greatest one first, each of them 0 or 1.
func toldSum(b []byte) uint32 {
	var n [32]int
	for i := range n {
		n[i] = 1
	}
	for _, x := range b {
		for i := range 8 {
			n[i] = (n[i] + int(x>>(7-i))) % 2
		}
		for range 8 {
			n = shifted(n)
		}
	}
	sum := uint32(0)
	for _, bit := range n {
		sum = 2*sum + uint32(bit)
	}
	return sum
}

// shifted is 32 bits shifted left by one, and, if the bit that is lost is 1, exclusive or 04c11db7.
func shifted(n [32]int) [32]int {
	lost := n[0]
	var out [32]int
	copy(out[:31], n[1:])
	if lost == 1 {
		for i, digit := range "00000100110000010001110110110111" {
			out[i] = (out[i] + int(digit-'0')) % 2
		}
	}
	return out
}

// librarySum is the same by the library, which takes each byte's least bit first, and turns all bits round at the end.
func librarySum(b []byte) uint32 {
	turned := make([]byte, len(b))
	for i, x := range b {
		turned[i] = bits.Reverse8(x)
	}
	return bits.Reverse32(^crc32.ChecksumIEEE(turned))
}

// sumIs fails unless Sum, and both other ways, tell that.
func sumIs(t *testing.T, b []byte) {
	t.Helper()
	got := frame.Sum(b)
	if want := toldSum(b); got != want {
		t.Errorf("Sum of %x: %08x, not %08x", b, got, want)
	}
	if want := librarySum(b); got != want {
		t.Errorf("Sum of %x: %08x, by the library %08x", b, got, want)
	}
}

func TestSumOfBytesThatAreKnown(t *testing.T) {
	for _, c := range []struct {
		text string
		want uint32
	}{
		{"", 0xffffffff},
		{"\x00", 0x4e08bfb4},
		{"\x80", 0x27045f5a},
		{"\xff", 0xffffff00},
		{"\x00\x00\x00\x00", 0xc704dd7b},
		{"\xff\xff\xff\xff", 0},
		{"123456789", 0x0376e6e7},
		{"\x00\x00\x04\x00\x00\x00\x00\x00\x00", 0xb34bd26b},
	} {
		if got := frame.Sum([]byte(c.text)); got != c.want {
			t.Errorf("Sum of %x: %08x, not %08x", c.text, got, c.want)
		}
	}
	if got := frame.Sum(nil); got != 0xffffffff {
		t.Errorf("Sum of nil: %08x", got)
	}
}

func TestSumIsWhatIsToldBitByBit(t *testing.T) {
	sumIs(t, nil)
	for x := range 256 {
		sumIs(t, []byte{byte(x)})
		sumIs(t, []byte{0, byte(x)})
		sumIs(t, []byte{byte(x), 0})
	}
	d := die(31)
	for n := range 200 {
		sumIs(t, d.bytes(n))
		sumIs(t, make([]byte, n))
		sumIs(t, bytes.Repeat([]byte{255}, n))
	}
	sumIs(t, d.bytes(20_000))
}

func TestSumOfBytesAndTheirSumIsNought(t *testing.T) {
	d := die(32)
	for n := range 100 {
		if b := summed(d.bytes(n)); frame.Sum(b) != 0 {
			t.Errorf("Sum of %x: %08x", b, frame.Sum(b))
		}
	}
}
