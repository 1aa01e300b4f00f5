package system_test

import (
	"fmt"
	"math"
	"testing"

	"triumvir/api"
	"triumvir/frame"
	"triumvir/system"
)

// first is a burst's greatest bit, last its least one.
const first, last = uint32(1) << 31, uint32(1)

// each are the calls on what is under way.
func each(s *system.System) map[string]func(i int) error {
	return map[string]func(i int) error{
		"Deliver": s.Deliver,
		"Lose":    s.Lose,
		"Twice":   s.Twice,
		"Spoil":   func(i int) error { return s.Spoil(i, 0, first) },
		// What else is wrong is told behind.
		"Spoil beyond its end": func(i int) error { return s.Spoil(i, -1, 0) },
	}
}

func TestThereIsNoneSuch(t *testing.T) {
	for _, begin := range []func(*testing.T) *system.System{busy, full, func(t *testing.T) *system.System { return made(t, 9) }} {
		s := begin(t)
		many := s.Many()
		for _, i := range []int{math.MinInt, -2, -1, many, many + 1, 120, 121, 1 << 32, math.MaxInt} {
			for name, call := range each(s) {
				refused(t, fmt.Sprintf("%s of %d, with %d", name, i, many), s, api.ErrRange, func() error { return call(i) })
			}
		}
		alike(t, "behind errors", s, begin(t))
	}
}

func TestTheFirstAndTheLastOneAreThere(t *testing.T) {
	for name := range each(nil) {
		if name == "Spoil beyond its end" {
			continue
		}
		for _, n := range []int{1, 2, 7} {
			for _, i := range []int{0, n - 1} {
				s := made(t, 9)
				for range n {
					says(t, s, 0, 1, sampleOf(0, 0, in(15, 7)))
				}
				is(t, fmt.Sprintf("%s of %d, with %d", name, i, n), each(s)[name](i), api.OK)
				want := map[string]int{"Deliver": n - 1, "Lose": n - 1, "Twice": n + 1, "Spoil": n}[name]
				holds(t, name, s, want, 0)
			}
		}
	}
}

// row is a system with things of 1, 2, 3, 4 and 5 bytes under way.
func row(t *testing.T) *system.System {
	t.Helper()
	s := made(t, 9)
	for n := 1; n <= 5; n++ {
		fine(t, s.Says(0, 1, make([]byte, n)))
	}
	return s
}

func TestInTheMidstOfOthers(t *testing.T) {
	without := [][]int{{2, 3, 4, 5}, {1, 3, 4, 5}, {1, 2, 4, 5}, {1, 2, 3, 5}, {1, 2, 3, 4}}
	for i := range 5 {
		s := row(t)
		fine(t, s.Lose(i))
		underWay(t, fmt.Sprint("Lose of ", i), s, without[i]...)
		s = row(t)
		fine(t, s.Deliver(i))
		underWay(t, fmt.Sprint("Deliver of ", i), s, without[i]...)
		s = row(t)
		fine(t, s.Twice(i))
		underWay(t, fmt.Sprint("Twice of ", i), s, 1, 2, 3, 4, 5, i+1)
	}
}

func TestWhatIsSentGoesBehindAllOthers(t *testing.T) {
	s := row(t)
	says(t, s, 0, 1, askOf(0, 0))
	fine(t, s.Says(0, 1, make([]byte, 6)))
	underWay(t, "Says", s, 1, 2, 3, 4, 5, ask, 6)
	fine(t, s.Deliver(5))
	underWay(t, "Deliver", s, 1, 2, 3, 4, 5, 6, known)
	tick(t, s, 2, 1)
	underWay(t, "Tick", s, 1, 2, 3, 4, 5, 6, known, sample, sample)
	fine(t, s.Asks(2))
	underWay(t, "Asks", s, 1, 2, 3, 4, 5, 6, known, sample, sample, ask, ask)
	fine(t, s.Twice(6))
	underWay(t, "Twice", s, 1, 2, 3, 4, 5, 6, known, sample, sample, ask, ask, known)
}

func TestTwiceIsTheSameOfTheSameForTheSame(t *testing.T) {
	for k := range 3 {
		a, b := others(k)
		for i, to := range []int{a, b} {
			for _, which := range []int{i, 2} {
				s := made(t, 9)
				fine(t, s.See(k, in(13, 5)))
				tick(t, s, k, 1)
				fine(t, s.Twice(i))
				isSample(t, "Twice", s, which, k, to, in(13, 5))
			}
		}
		for which := range 2 {
			s := made(t, 9)
			says(t, s, k, api.Voter, voteOf(k, 0, com(15, 5, 1)))
			fine(t, s.Twice(0))
			isVote(t, "Twice", s, which, k, com(15, 5, 1))
		}
	}
}

func TestADoneThatComesTwice(t *testing.T) {
	s := made(t, 9)
	c := com(15, 5, 1)
	says(t, s, 0, api.Voter, voteOf(0, 0, c))
	says(t, s, 1, api.Voter, voteOf(1, 0, c))
	deliver(t, s, 2)
	fine(t, s.Twice(1))
	underWay(t, "Twice", s, done, done, done, done)
	only(t, s, 3)
	deliver(t, s, 1)
	stands(t, "the one whom it is for", s, 1, 1, states(t, line(), s.Trace())[1])
	stands(t, "another one", s, 0, 0, api.State{})
	stands(t, "another one", s, 2, 0, api.State{})
}

// learnt is a system in which cycles are committed, of which replicas 0 and 1 know two, and replica 2 none.
func learnt(t *testing.T) *system.System {
	t.Helper()
	s := made(t, 9)
	commits(t, s, []int{0, 1}, com(15, 5, 1), com(15, 7, 1))
	return s
}

// nothing fails unless what comes then, as the last one, is as if it were lost.
func nothing(t *testing.T, what string, send func(s *system.System)) {
	t.Helper()
	begin := func() *system.System {
		s := learnt(t)
		// Something is under way, so that it stands in the midst.
		fine(t, s.Says(0, 1, []byte{1}))
		send(s)
		return s
	}
	s, twin := begin(), begin()
	fine(t, s.Deliver(s.Many()-1))
	fine(t, twin.Lose(twin.Many()-1))
	alike(t, what, s, twin)
}

func TestDeliverOfNoFrame(t *testing.T) {
	d := die(3)
	for to := range 4 {
		k := (to + 1) % 3
		for n := range api.MaxFrame + 1 {
			b := make([]byte, n)
			for i := range b {
				b[i] = byte(d.upTo(256))
			}
			nothing(t, fmt.Sprint(n, " bytes to ", to), func(s *system.System) { fine(t, s.Says(k, to, b)) })
		}
		for _, f := range frames(k, 2) {
			b := written(f)
			b[len(b)-1] ^= 1
			nothing(t, fmt.Sprintf("%+v, spoilt", f), func(s *system.System) { fine(t, s.Says(k, to, b)) })
			nothing(t, fmt.Sprintf("%+v, cut", f), func(s *system.System) { fine(t, s.Says(k, to, b[:len(b)-1])) })
			nothing(t, fmt.Sprintf("%+v, and one more", f), func(s *system.System) { fine(t, s.Says(k, to, append(b, 0))) })
		}
	}
}

// frames are one of each kind.
func frames(from, cycle int) []frame.Frame {
	return []frame.Frame{
		sampleOf(from, cycle, in(15, 7)),
		voteOf(from, cycle, com(15, 7, 1)),
		doneOf(from, cycle, com(15, 7, 1)),
		askOf(from, cycle),
		knownOf(from, cycle, api.State{Set: 1}),
	}
}

func TestDeliverOfAFrameInAnothersName(t *testing.T) {
	for k := range 3 {
		for to := range 4 {
			for from := range 4 {
				if k == to || k == from {
					continue
				}
				for cycle := range 4 {
					for _, f := range frames(from, cycle) {
						nothing(t, fmt.Sprintf("%+v of %d to %d", f, k, to), func(s *system.System) { says(t, s, k, to, f) })
					}
				}
			}
		}
	}
}

func TestKindsThatAreNothing(t *testing.T) {
	for k := range 3 {
		for cycle := range 4 {
			l := frames(k, cycle)
			a, b := others(k)
			for _, to := range []int{a, b} {
				nothing(t, "a Vote to a replica", func(s *system.System) { says(t, s, k, to, l[1]) })
				nothing(t, "a Done of a replica", func(s *system.System) { says(t, s, k, to, l[2]) })
			}
			nothing(t, "a Sample to the voter", func(s *system.System) { says(t, s, k, api.Voter, l[0]) })
			nothing(t, "a Done to the voter", func(s *system.System) { says(t, s, k, api.Voter, l[2]) })
			nothing(t, "a Known to the voter", func(s *system.System) { says(t, s, k, api.Voter, l[4]) })
		}
	}
}

func TestAnAskToAReplicaIsToldAKnown(t *testing.T) {
	for k := range 3 {
		a, b := others(k)
		for _, to := range []int{a, b} {
			c := com(15, 5, 1)
			behind := states(t, line(), []api.Commit{c})[1]
			s := made(t, 9)
			commits(t, s, []int{to}, c)
			says(t, s, k, to, askOf(k, 7))
			deliver(t, s, 1)
			underWay(t, "an Ask", s, known)
			third := 3 - k - to
			says(t, s, third, k, knownOf(third, 1, behind))
			deliver(t, s, 2)
			stands(t, "whom it was told", s, k, 1, behind)
			stands(t, "another one", s, third, 0, api.State{})
		}
	}
}

func TestAKnownToAReplica(t *testing.T) {
	for k := range 3 {
		a, b := others(k)
		s := made(t, 9)
		says(t, s, a, k, knownOf(a, 4, api.State{Set: 2}))
		says(t, s, b, k, knownOf(b, 4, api.State{Set: 2}))
		deliver(t, s, 1)
		stands(t, "told by one", s, k, 0, api.State{})
		deliver(t, s, 1)
		stands(t, "told by two", s, k, 4, api.State{Set: 2})
		stands(t, "another one", s, a, 0, api.State{})
		stands(t, "another one", s, b, 0, api.State{})
		holds(t, "nothing is told", s, 0, 0)
	}
}

func TestASampleToAReplica(t *testing.T) {
	for k := range 3 {
		a, b := others(k)
		for _, to := range []int{a, b} {
			s := made(t, 9)
			says(t, s, k, to, sampleOf(k, 0, in(13, 5)))
			was := seen(s)
			was.many--
			twin := made(t, 9)
			says(t, twin, k, to, sampleOf(k, 0, in(13, 5)))
			deliver(t, twin, 1)
			if now := seen(twin); !same(now, was) {
				t.Errorf("a Sample: %+v, not %+v", now, was)
			}
			isSample(t, "a Sample", s, 0, k, to, in(13, 5))
		}
	}
}

func TestVotesAlikeAreToldToAll(t *testing.T) {
	c := com(15, 5, 1)
	for k := range 3 {
		a, b := others(k)
		for _, second := range []int{a, b} {
			for told := range 3 {
				s := made(t, 9)
				says(t, s, k, api.Voter, voteOf(k, 0, c))
				says(t, s, second, api.Voter, voteOf(second, 0, c))
				deliver(t, s, 1)
				traced(t, "one vote", s)
				underWay(t, "one vote", s, vote)
				deliver(t, s, 1)
				traced(t, "two votes", s, c)
				underWay(t, "two votes", s, done, done, done)
				only(t, s, told)
				deliver(t, s, 1)
				for other := range 3 {
					want := 0
					if other == told {
						want = 1
					}
					stands(t, fmt.Sprint("told ", told), s, other, want, states(t, line(), []api.Commit{c})[want])
				}
				holds(t, "nothing more is told", s, 0, 0)
			}
		}
	}
}

func TestWhatIsLateIsToldToThatReplicaAlone(t *testing.T) {
	l := []api.Commit{com(15, 5, 1), com(15, 7, 1), com(13, 7, 0)}
	after := states(t, line(), l)
	for k := range 3 {
		for cycle := range 3 {
			for _, f := range []frame.Frame{askOf(k, cycle), voteOf(k, cycle, com(1, 1, 1))} {
				s := made(t, 9)
				commits(t, s, nil, l...)
				// The replica knows all cycles ahead of that one.
				for c := range cycle {
					says(t, s, k, api.Voter, askOf(k, c))
					deliver(t, s, 1)
					loseBehind(t, s, 1)
					deliver(t, s, 1)
					loseBehind(t, s, 0)
				}
				stands(t, "ahead of it", s, k, cycle, after[cycle])
				says(t, s, k, api.Voter, f)
				deliver(t, s, 1)
				if cycle == 2 {
					underWay(t, "the last one", s, done)
				} else {
					underWay(t, "one ahead", s, done, done)
				}
				// That of its cycle is told first.
				deliver(t, s, 1)
				stands(t, "told", s, k, cycle+1, after[cycle+1])
				a, b := others(k)
				stands(t, "another one", s, a, 0, api.State{})
				stands(t, "another one", s, b, 0, api.State{})
			}
		}
	}
}

func TestADoneLetsAReplicaAskTheVoter(t *testing.T) {
	l := []api.Commit{com(15, 5, 1), com(15, 7, 1), com(13, 7, 0)}
	after := states(t, line(), l)
	for k := range 3 {
		s := made(t, 9)
		commits(t, s, nil, l...)
		says(t, s, k, api.Voter, askOf(k, 0))
		deliver(t, s, 1)
		underWay(t, "of cycle 0, and the last one", s, done, done)
		fine(t, s.Lose(0))
		deliver(t, s, 1)
		stands(t, "the last one alone", s, k, 0, api.State{})
		underWay(t, "what it asks", s, ask)
		deliver(t, s, 1)
		underWay(t, "the voter's answer", s, done, done)
		deliver(t, s, 1)
		stands(t, "of cycle 0", s, k, 1, after[1])
		underWay(t, "it asks on", s, done, ask)
		deliver(t, s, 1)
		underWay(t, "and again", s, ask, ask)
		deliver(t, s, 2)
		underWay(t, "the voter's answers", s, done, done, done, done)
		deliver(t, s, 1)
		stands(t, "of cycle 1", s, k, 2, after[2])
		deliver(t, s, 1)
		stands(t, "of cycle 2", s, k, 3, after[3])
		deliver(t, s, 2)
		underWay(t, "it asked of cycle 2 ahead of that", s, ask)
		deliver(t, s, 1)
		underWay(t, "the voter's answer", s, done)
		deliver(t, s, 1)
		stands(t, "of cycle 2, once more", s, k, 3, after[3])
		holds(t, "it knows all", s, 0, 0)
	}
}

func TestTheVoterIsNotToldOfOneWhoIsOut(t *testing.T) {
	s := made(t, 9)
	says(t, s, 2, api.Voter, voteOf(2, 0, com(15, 5, 2)))
	deliver(t, s, 1)
	commits(t, s, nil, com(15, 5, 1))
	if s.Out() != 4 {
		t.Fatalf("out are %d", s.Out())
	}
	says(t, s, 2, api.Voter, askOf(2, 0))
	deliver(t, s, 1)
	holds(t, "an Ask of one who is out", s, 0, 0)
	says(t, s, 1, api.Voter, askOf(1, 0))
	deliver(t, s, 1)
	underWay(t, "an Ask of another one", s, done)
}

func TestSpoilConditions(t *testing.T) {
	for _, f := range frames(0, 0) {
		n := len(written(f))
		end := 8 * n
		for _, c := range []struct {
			at   int
			what uint32
			want api.Errno
		}{
			{math.MinInt, first, api.ErrArg}, {-32, last, api.ErrArg}, {-1, first, api.ErrArg}, {-1, first >> 1, api.ErrArg},
			{0, first, api.OK}, {0, last, api.OK}, {0, math.MaxUint32, api.OK}, {0, 0, api.ErrArg}, {1, 0, api.ErrArg},
			{end - 33, last, api.OK}, {end - 32, last, api.OK}, {end - 31, last, api.ErrArg},
			{end - 32, math.MaxUint32, api.OK}, {end - 31, math.MaxUint32, api.ErrArg}, {end - 31, math.MaxUint32 - 1, api.OK},
			{end - 31, 2, api.OK}, {end - 30, 2, api.ErrArg}, {end - 2, first >> 1, api.OK}, {end - 1, first >> 1, api.ErrArg},
			{end - 1, first, api.OK}, {end - 1, first | last, api.ErrArg}, {end - 1, 0, api.ErrArg},
			{end, first, api.ErrArg}, {end + 1, first, api.ErrArg}, {end, last, api.ErrArg},
			{math.MaxInt - 31, last, api.ErrArg}, {math.MaxInt, first, api.ErrArg}, {math.MaxInt, last, api.ErrArg},
		} {
			what := fmt.Sprintf("Spoil of %d bytes, %08x at %d", n, c.what, c.at)
			s := made(t, 9)
			fine(t, s.Says(0, 1, []byte{1}))
			says(t, s, 0, 1, f)
			fine(t, s.Says(0, 1, []byte{1, 2}))
			refused(t, what, s, c.want, func() error { return s.Spoil(1, c.at, c.what) })
			underWay(t, what, s, 1, n, 2)
			// Once only, and where it was refused it is not spoilt.
			again := api.OK
			if c.want == api.OK {
				again = api.ErrTwice
			}
			refused(t, what+", then another one", s, again, func() error { return s.Spoil(1, 3, first) })
			// What is beyond the end is told ahead of what is spoilt already.
			if c.want == api.ErrArg {
				refused(t, what+", of one that is spoilt", s, api.ErrArg, func() error { return s.Spoil(1, c.at, c.what) })
			}
		}
	}
}

func TestSpoilOfNoFrame(t *testing.T) {
	for n := range api.MaxFrame + 1 {
		s := made(t, 9)
		fine(t, s.Says(0, 1, make([]byte, n)))
		for at := -1; at <= 8*n+1; at++ {
			want := api.ErrTwice
			if at < 0 || at >= 8*n {
				want = api.ErrArg
			}
			is(t, fmt.Sprintf("Spoil of %d noughts at %d", n, at), s.Spoil(0, at, first), want)
		}
	}
}

func TestAFrameInAnothersNameMayBeSpoilt(t *testing.T) {
	s := made(t, 9)
	says(t, s, 0, 1, askOf(2, 0))
	is(t, "a first time", s.Spoil(0, 0, first), api.OK)
	is(t, "a second time", s.Spoil(0, 0, first), api.ErrTwice)
}

func TestWhatIsSpoiltIsNothing(t *testing.T) {
	d := die(29)
	for range 400 {
		k := d.upTo(3)
		l := append(frames(k, 2), frames(k, 3)...)
		f := l[d.upTo(len(l))]
		to := []int{(k + 1) % 3, (k + 2) % 3, 3}[d.upTo(3)]
		end := 8 * len(written(f))
		what := uint32(d.upTo(1<<31))<<1 | 1
		at := d.upTo(end - 31)
		if d.upTo(2) == 0 {
			what, at = first>>d.upTo(8), d.upTo(end-7)
		}
		nothing(t, fmt.Sprintf("%+v, spoilt by %08x at %d", f, what, at), func(s *system.System) {
			says(t, s, k, to, f)
			fine(t, s.Spoil(s.Many()-1, at, what))
		})
	}
}

func TestSpoilIsOfThatOneAlone(t *testing.T) {
	for k := range 3 {
		a, b := others(k)
		begin := func(spoilt int) *system.System {
			s := made(t, 9)
			fine(t, s.See(k, in(13, 5)))
			tick(t, s, k, 1)
			fine(t, s.Twice(0))
			fine(t, s.Twice(1))
			fine(t, s.Spoil(spoilt, 100, first))
			return s
		}
		for spoilt := range 4 {
			for i, to := range []int{a, b, a, b} {
				if i != spoilt {
					isSample(t, "not the spoilt one", begin(spoilt), i, k, to, in(13, 5))
				}
			}
		}
	}
}

func TestOfADoneToAllOneIsSpoilt(t *testing.T) {
	c := com(15, 5, 1)
	for spoilt := range 3 {
		s := made(t, 9)
		says(t, s, 0, api.Voter, voteOf(0, 0, c))
		says(t, s, 1, api.Voter, voteOf(1, 0, c))
		deliver(t, s, 2)
		fine(t, s.Spoil(spoilt, 50, 0xf000000f))
		deliver(t, s, 3)
		for k := range 3 {
			want := 1
			if k == spoilt {
				want = 0
			}
			stands(t, fmt.Sprint("spoilt is ", spoilt), s, k, want, states(t, line(), []api.Commit{c})[want])
		}
	}
}

func TestASpoiltOneComesTwiceSpoilt(t *testing.T) {
	s := made(t, 9)
	says(t, s, 0, 1, askOf(0, 0))
	fine(t, s.Spoil(0, 5, first))
	fine(t, s.Twice(0))
	is(t, "its copy", s.Spoil(1, 5, first), api.ErrTwice)
	deliver(t, s, 2)
	holds(t, "both are nothing", s, 0, 0)
}
