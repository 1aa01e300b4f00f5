package frame_test

import (
	"encoding/hex"
	"math"
	"strings"
	"testing"

	"triumvir/api"
	"triumvir/frame"
)

func TestKindsAreNumberedFromOneOn(t *testing.T) {
	for i, kind := range kinds {
		if kind != i+1 {
			t.Errorf("kind %d has the number %d", i, kind)
		}
	}
}

// knownState is a state of which no two numbers are alike.
func knownState() api.State {
	return api.State{
		Set:  165,
		Used: [api.MaxRoutes]int{256, 513, 770, 1027, 1284, 1541, 1798, 2055},
		Idle: [api.MaxRoutes]int{0, 1048575, 140000, 1048573, 280000, 1048571, 420000, 1048569},
	}
}

// writtenFrames are frames of each kind, and their bytes.
func writtenFrames() []struct {
	f    frame.Frame
	text string
} {
	return []struct {
		f    frame.Frame
		text string
	}{
		{frame.Frame{Kind: frame.Sample, From: 0, Cycle: 7, In: api.Input{Clear: 15, Wanted: 5}},
			"000001 000000 000007 00000f 000005 ea536adb"},
		{frame.Frame{Kind: frame.Vote, From: 1, Cycle: 1000, In: api.Input{Clear: 15, Wanted: 5}, Out: 1},
			"000002 000001 0003e8 00000f 000005 000001 42af616d"},
		{frame.Frame{Kind: frame.Done, From: 3, Cycle: 1 << 20, In: api.Input{Clear: 4095, Wanted: 255}, Out: 129},
			"000003 000003 100000 000fff 0000ff 000081 c340d61b"},
		{frame.Frame{Kind: frame.Ask, From: 2, Cycle: 66051},
			"000004 000002 010203 a338eee3"},
		{frame.Frame{Kind: frame.Ask},
			"000004 000000 000000 b34bd26b"},
		{frame.Frame{Kind: frame.Known, From: 2, Cycle: 12, State: knownState()},
			"000005 000002 00000c 0000a5" +
				" 000100 000000 000201 0fffff 000302 0222e0 000403 0ffffd" +
				" 000504 0445c0 000605 0ffffb 000706 0668a0 000807 0ffff9 3d1c0dd8"},
	}
}

func TestEncodeWritesTheseBytes(t *testing.T) {
	for _, c := range writtenFrames() {
		want := strings.ReplaceAll(c.text, " ", "")
		if got := hex.EncodeToString(encoded(t, c.f)); got != want {
			t.Errorf("Encode of %v: %s, not %s", c.f, got, want)
		}
		comesBack(t, c.f)
	}
}

func TestHowManyBytesAKindHas(t *testing.T) {
	for kind, want := range map[int]int{frame.Sample: 19, frame.Vote: 22, frame.Done: 22, frame.Ask: 13, frame.Known: 64} {
		for _, number := range []int{0, 1, 3} {
			f := filled(kind, func(int) int { return number })
			if got := len(encoded(t, f)); got != want {
				t.Errorf("Encode of %v: %d bytes, not %d", f, got, want)
			}
		}
	}
}

func TestOnlyTheseKindsMayBe(t *testing.T) {
	for _, kind := range append([]int{0, 6, 7, 255, 256, 257}, farOff...) {
		refused(t, frame.Frame{Kind: kind})
		refused(t, frame.Frame{Kind: kind, From: 1, Cycle: 1})
		refused(t, frame.Frame{Kind: kind, In: api.Input{Clear: 1, Wanted: 1}, Out: 1})
	}
	refused(t, frame.Frame{})
	for _, kind := range kinds {
		comesBack(t, frame.Frame{Kind: kind})
	}
}

func TestFromIsAReplicaOrTheVoter(t *testing.T) {
	for _, kind := range kinds {
		for from := range api.Voter + 1 {
			comesBack(t, frame.Frame{Kind: kind, From: from})
		}
		for _, from := range append([]int{api.Voter + 1, 5, 255, 256, api.MaxNumber - 1, api.MaxNumber}, farOff...) {
			refused(t, frame.Frame{Kind: kind, From: from})
		}
	}
}

// with is a frame with another number at a place.
func with(f frame.Frame, place, number int) frame.Frame {
	*places(&f)[place] = number
	return f
}

// bases are frames of a kind that may be: all is 0, all is the least that is not, all is the greatest.
func bases(kind int) []frame.Frame {
	var l []frame.Frame
	for _, number := range []int{0, 1, api.MaxNumber} {
		l = append(l, filled(kind, func(place int) int {
			if place == atFrom {
				return min(number, api.Voter)
			}
			return number
		}))
	}
	return l
}

func TestNumbersThatAKindHas(t *testing.T) {
	for _, kind := range kinds {
		for place := range places(&frame.Frame{}) {
			if place == atFrom || !has(kind, place) {
				continue
			}
			for _, f := range bases(kind) {
				for _, number := range []int{0, 1, 255, 256, 65535, 65536, api.MaxNumber - 1, api.MaxNumber} {
					comesBack(t, with(f, place, number))
				}
				for _, number := range farOff {
					refused(t, with(f, place, number))
				}
			}
		}
	}
}

func TestNumbersThatAKindHasNot(t *testing.T) {
	for _, kind := range kinds {
		for place := range places(&frame.Frame{}) {
			if has(kind, place) {
				continue
			}
			for _, f := range bases(kind) {
				comesBack(t, with(f, place, 0))
				for _, number := range append([]int{1, 2, 256, api.MaxNumber}, farOff...) {
					refused(t, with(f, place, number))
				}
			}
		}
	}
}

func TestSeveralThingsWrong(t *testing.T) {
	refused(t, frame.Frame{Kind: 9, From: 9, Cycle: -9, Out: 9})
	refused(t, frame.Frame{Kind: frame.Ask, From: -1, Cycle: -1, Out: 1})
	refused(t, frame.Frame{Kind: frame.Known, In: api.Input{Clear: 1}, State: api.State{Set: math.MinInt}})
	refused(t, frame.Frame{Kind: frame.Sample, Out: 1, State: api.State{Set: -1}})
	_, err := frame.Encode(frame.Frame{})
	is(t, "Encode of the zero frame", err, api.ErrArg)
}

func TestEncodeTellsFreshBytes(t *testing.T) {
	for _, c := range writtenFrames() {
		first := encoded(t, c.f)
		second := encoded(t, c.f)
		want := string(second)
		memory := first[:cap(first)]
		for i := range memory {
			memory[i] ^= 255
		}
		if string(second) != want || string(encoded(t, c.f)) != want {
			t.Errorf("Encode of %v: bytes that were written into changed others", c.f)
		}
	}
}
