package system_test

import (
	"errors"
	"fmt"
	"math"
	"slices"
	"testing"

	"triumvir/api"
	"triumvir/frame"
	"triumvir/replica"
	"triumvir/system"
)

func TestNewOfALayoutThatIsRight(t *testing.T) {
	lines := []api.Layout{
		line(),
		{Sections: 1, Routes: []int{1}},
		{Sections: 12, Routes: []int{1, 2, 3, 4, 5, 6, 7, 4095}, Delay: 20},
	}
	for _, l := range lines {
		for window := 1; window <= api.MaxDelay; window++ {
			s, err := system.New(l, window)
			if err != nil || s == nil {
				t.Fatalf("New of %+v, %d: %v, %v", l, window, s, err)
			}
			if got := seen(s); !same(got, view{}) {
				t.Errorf("a new one: %+v", got)
			}
		}
	}
}

func TestALayoutsErrorsComeFirst(t *testing.T) {
	wrong := []struct {
		l     api.Layout
		err   api.Errno
		place int
	}{
		{api.Layout{}, api.ErrRange, -1},
		{api.Layout{Sections: 13, Routes: []int{3}}, api.ErrRange, -1},
		{api.Layout{Sections: 4}, api.ErrRange, -1},
		{api.Layout{Sections: 4, Routes: []int{1, 2, 3, 4, 5, 6, 7, 8, 9}}, api.ErrRange, -1},
		{api.Layout{Sections: 4, Routes: []int{3}, Delay: 21}, api.ErrRange, -1},
		{api.Layout{Sections: 4, Routes: []int{3}, Delay: -1}, api.ErrRange, -1},
		{api.Layout{Sections: 4, Routes: []int{0, 3}}, api.ErrArg, 0},
		{api.Layout{Sections: 4, Routes: []int{3, 6, 16}}, api.ErrArg, 2},
		{api.Layout{Sections: 4, Routes: []int{3, 6, 3}}, api.ErrTwice, 2},
	}
	for _, w := range wrong {
		for _, window := range []int{math.MinInt, -1, 0, 1, 5, 20, 21, math.MaxInt} {
			s, err := system.New(w.l, window)
			place := -1
			var at *api.At
			if errors.As(err, &at) {
				place = at.Place
			}
			if s != nil || api.Tell(err) != w.err || place != w.place {
				t.Errorf("New of %+v, %d: %v, %v at %d", w.l, window, s, err, place)
			}
		}
	}
}

func TestWindowsThatTheVoterRefuses(t *testing.T) {
	for _, window := range []int{math.MinInt, -20, -1, 0, 21, 22, 1 << 32, 1<<32 + 1, math.MaxInt} {
		s, err := system.New(line(), window)
		is(t, fmt.Sprint("New with a window of ", window), err, api.ErrRange)
		if s != nil {
			t.Errorf("New with a window of %d: %v", window, s)
		}
	}
}

func TestTheVotersTick(t *testing.T) {
	for window := 1; window <= api.MaxDelay; window++ {
		s := made(t, window)
		for range window - 1 {
			tick(t, s, api.Voter, 1)
			if got := seen(s); !same(got, view{}) {
				t.Fatalf("a tick of the voter: %+v", got)
			}
		}
		tick(t, s, api.Voter, 1)
		if got := seen(s); !same(got, view{latched: true}) {
			t.Fatalf("the last tick of %d: %+v", window, got)
		}
		tick(t, s, api.Voter, 1)
		if got := seen(s); !same(got, view{latched: true}) {
			t.Fatalf("one more: %+v", got)
		}
	}
}

func TestACommitGivesTheVoterTime(t *testing.T) {
	s := made(t, 3)
	tick(t, s, api.Voter, 2)
	commits(t, s, nil, com(15, 5, 1))
	tick(t, s, api.Voter, 2)
	if s.Latched() || s.Shown() != 1 {
		t.Errorf("it is latched, or shows %d", s.Shown())
	}
	tick(t, s, api.Voter, 1)
	if !s.Latched() || s.Shown() != 0 {
		t.Errorf("it is not latched, or shows %d", s.Shown())
	}
}

func TestNewNeitherKeepsNorWritesItsList(t *testing.T) {
	all := []int{3, 12, 6, 77, 78}
	s, err := system.New(api.Layout{Sections: 4, Routes: all[:3], Delay: 2}, 9)
	fine(t, err)
	all[0], all[1], all[2] = 0, 15, 15
	twin := made(t, 9)
	for _, x := range []*system.System{s, twin} {
		for k := range 3 {
			fine(t, x.See(k, in(15, 7)))
		}
		x.Calm(3)
		// One that falls is of the same line.
		fine(t, x.Crash(1))
		fine(t, x.See(1, in(15, 6)))
	}
	alike(t, "behind other routes in the list", s, twin)
	if !slices.Equal(all, []int{0, 15, 15, 77, 78}) {
		t.Errorf("the list became %v", all)
	}
}

func TestTwoSystemsShareNothing(t *testing.T) {
	s, other := made(t, 9), made(t, 9)
	fine(t, s.See(0, in(15, 7)))
	tick(t, s, 0, 3)
	s.Calm(5)
	tick(t, s, 1, 2)
	s.Latch()
	alike(t, "one that was not asked", other, made(t, 9))
}

// beyond are numbers of no replica.
var beyond = []int{math.MinInt, -3, -2, -1, 3, 4, 5, 64, 1 << 32, 1<<32 + 1, math.MaxInt}

// busy is a system in the midst of things: frames are under way, two cycles are committed, of which replica 2 knows none.
func busy(t *testing.T) *system.System {
	t.Helper()
	s := made(t, 9)
	commits(t, s, []int{0, 1}, com(15, 5, 1), com(15, 7, 1))
	for k := range 3 {
		fine(t, s.See(k, in(15-k, 7)))
		tick(t, s, k, 2)
	}
	fine(t, s.Asks(2))
	return s
}

func TestNoSuchReplica(t *testing.T) {
	s := busy(t)
	for _, k := range beyond {
		refused(t, fmt.Sprint("See of ", k), s, api.ErrRange, func() error { return s.See(k, in(15, 7)) })
		refused(t, fmt.Sprint("Asks of ", k), s, api.ErrRange, func() error { return s.Asks(k) })
		refused(t, fmt.Sprint("Crash of ", k), s, api.ErrRange, func() error { return s.Crash(k) })
		refused(t, fmt.Sprint("Replica of ", k), s, api.ErrRange, func() error {
			cycle, state, err := s.Replica(k)
			if cycle != 0 || state != (api.State{}) {
				t.Errorf("Replica of %d: %d, %+v", k, cycle, state)
			}
			return err
		})
		if k != api.Voter {
			refused(t, fmt.Sprint("Tick of ", k), s, api.ErrRange, func() error { return s.Tick(k) })
		}
	}
	alike(t, "behind errors", s, busy(t))
}

func TestEachReplicaIsThere(t *testing.T) {
	for k := range 3 {
		s := made(t, 9)
		fine(t, s.See(k, in(15, 7)))
		fine(t, s.Asks(k))
		fine(t, s.Crash(k))
		fine(t, s.Tick(k))
		_, _, err := s.Replica(k)
		fine(t, err)
	}
	fine(t, made(t, 9).Tick(api.Voter))
}

func TestReplicaIsItsCycleAndState(t *testing.T) {
	l := []api.Commit{com(15, 5, 1), com(15, 7, 1), com(13, 7, 0)}
	for k := range 3 {
		s := made(t, 9)
		for n := range len(l) + 1 {
			want := states(t, line(), l)
			for other := range 3 {
				if other == k {
					stands(t, "who was told", s, k, n, want[n])
				} else {
					stands(t, "who was not told", s, other, 0, api.State{})
				}
			}
			if n < len(l) {
				commits(t, s, []int{k}, l[n])
			}
		}
	}
}

func TestTickSendsASampleToBothOthers(t *testing.T) {
	for k := range 3 {
		a, b := others(k)
		begin := func() *system.System {
			s := made(t, 9)
			fine(t, s.See(k, in(16+13, 8+5)))
			tick(t, s, k, 1)
			return s
		}
		underWay(t, "a first tick", begin(), sample, sample)
		isSample(t, "the first one", begin(), 0, k, a, in(13, 5))
		isSample(t, "the second one", begin(), 1, k, b, in(13, 5))
	}
}

func TestSeeIsOfThatReplicaAlone(t *testing.T) {
	for k := range 3 {
		for other := range 3 {
			s := made(t, 9)
			fine(t, s.See(other, in(2, 2)))
			fine(t, s.See(k, in(15, 7)))
			fine(t, s.See(k, in(7, 3)))
			if got := seen(s); !same(got, view{}) {
				t.Errorf("See: %+v", got)
			}
			tick(t, s, other, 1)
			want := in(2, 2)
			if other == k {
				want = in(7, 3)
			}
			to, _ := others(other)
			isSample(t, "what is seen", s, 0, other, to, want)
		}
	}
}

func TestTickSaysNeitherVoteNorAskAtFirst(t *testing.T) {
	for k := range 3 {
		s := made(t, 9)
		tick(t, s, k, replica.Patience-1)
		underWay(t, "alone", s, sample, sample, sample, sample)
		// With two samples it waits, too.
		a, _ := others(k)
		s = made(t, 9)
		tick(t, s, k, 1)
		says(t, s, a, k, sampleOf(a, 0, in(15, 7)))
		fine(t, s.Deliver(2))
		tick(t, s, k, 1)
		underWay(t, "with two", s, sample, sample, sample, sample)
	}
}

func TestTickSendsAVoteOfThreeSamples(t *testing.T) {
	for k := range 3 {
		a, b := others(k)
		begin := func() *system.System {
			s := made(t, 9)
			fine(t, s.See(k, in(15, 7)))
			says(t, s, a, k, sampleOf(a, 0, in(13, 6)))
			says(t, s, b, k, sampleOf(b, 0, in(7, 3)))
			deliver(t, s, 2)
			tick(t, s, k, 1)
			return s
		}
		underWay(t, "all samples", begin(), sample, sample, vote)
		_, out := stepped(t, api.State{}, in(15, 7))
		isVote(t, "of all samples", begin(), 2, k, com(15, 7, out))
		movesNoReplica(t, begin(), 2)
		for i, to := range []int{a, b} {
			s := begin()
			isSample(t, "the sample ahead of it", s, i, k, to, in(15, 7))
		}
	}
}

// movesNoReplica fails if the i-th changes a replica, or lets one tell something.
func movesNoReplica(t *testing.T, s *system.System, i int) {
	t.Helper()
	was := seen(s)
	fine(t, s.Deliver(i))
	now := seen(s)
	if now.zero != was.zero || now.first != was.first || now.two != was.two || now.many != was.many-1 {
		t.Errorf("%+v became %+v", was, now)
	}
}

func TestTickSendsAVoteOfTwoSamples(t *testing.T) {
	for k := range 3 {
		for _, of := range []int{(k + 1) % 3, (k + 2) % 3} {
			s := made(t, 9)
			fine(t, s.See(k, in(15, 7)))
			tick(t, s, k, replica.Patience-1)
			loseBehind(t, s, 0)
			says(t, s, of, k, sampleOf(of, 0, in(13, 6)))
			deliver(t, s, 1)
			tick(t, s, k, 1)
			underWay(t, "two samples", s, sample, sample, vote)
			_, out := stepped(t, api.State{}, in(13, 6))
			isVote(t, "of two samples", s, 2, k, com(13, 6, out))
		}
	}
}

func TestTickSendsTheVoterWhatItAsks(t *testing.T) {
	for k := range 3 {
		c := com(15, 5, 1)
		s := made(t, 9)
		commits(t, s, nil, c)
		tick(t, s, k, replica.Patience-1)
		loseBehind(t, s, 0)
		tick(t, s, k, 1)
		underWay(t, "alone for so long", s, sample, sample, ask)
		only(t, s, 2)
		deliver(t, s, 1)
		underWay(t, "what the voter tells", s, done)
		deliver(t, s, 1)
		stands(t, "told by the voter", s, k, 1, states(t, line(), []api.Commit{c})[1])
		underWay(t, "behind that", s)
	}
}

func TestAsksIsSentToBothOthers(t *testing.T) {
	c := com(15, 5, 1)
	behind := states(t, line(), []api.Commit{c})[1]
	for k := range 3 {
		a, b := others(k)
		for i, to := range []int{a, b} {
			// The one who is asked knows of cycle 1, alone: what it tells counts, when the other one says the same.
			s := made(t, 9)
			commits(t, s, []int{to}, c)
			fine(t, s.Asks(k))
			underWay(t, "Asks", s, ask, ask)
			only(t, s, i)
			deliver(t, s, 1)
			underWay(t, "what is told", s, known)
			other := a + b - to
			says(t, s, other, k, knownOf(other, 1, behind))
			deliver(t, s, 1)
			stands(t, "told by one", s, k, 0, api.State{})
			deliver(t, s, 1)
			stands(t, "told by two", s, k, 1, behind)
			underWay(t, "behind that", s)
		}
	}
}

func TestAsksChangesNothingElse(t *testing.T) {
	s := busy(t)
	was := seen(s)
	fine(t, s.Asks(1))
	was.many += 2
	if now := seen(s); !same(now, was) {
		t.Errorf("%+v, not %+v", now, was)
	}
}

func TestCrashIsNew(t *testing.T) {
	c := com(15, 5, 1)
	for k := range 3 {
		a, b := others(k)
		s := made(t, 9)
		commits(t, s, []int{0, 1, 2}, c, c)
		fine(t, s.See(k, in(15, 7)))
		says(t, s, a, k, sampleOf(a, 2, in(15, 7)))
		says(t, s, a, k, knownOf(a, 5, api.State{}))
		deliver(t, s, 2)
		tick(t, s, k, 2)
		was := seen(s)
		fine(t, s.Crash(k))
		*[]*place{&was.zero, &was.first, &was.two}[k] = place{}
		if now := seen(s); !same(now, was) {
			t.Errorf("Crash of %d: %+v, not %+v", k, now, was)
		}
		// It sees nothing, and no tick went by.
		loseBehind(t, s, 0)
		tick(t, s, k, 2)
		underWay(t, "behind a Crash", s, sample, sample, sample, sample)
		// What was told to it ahead is gone.
		loseBehind(t, s, 0)
		says(t, s, b, k, knownOf(b, 5, api.State{}))
		deliver(t, s, 1)
		stands(t, "told by one", s, k, 0, api.State{})
		tick(t, s, k, 1)
		underWay(t, "behind a Crash", s, sample, sample, ask)
	}
}

func TestOneThatFellSeesNothing(t *testing.T) {
	for k := range 3 {
		a, _ := others(k)
		s := made(t, 9)
		fine(t, s.See(k, in(15, 7)))
		tick(t, s, k, 1)
		fine(t, s.Crash(k))
		loseBehind(t, s, 0)
		tick(t, s, k, 1)
		isSample(t, "of one that fell", s, 0, k, a, in(0, 0))
	}
}

func TestACrashedSystemIsANewOne(t *testing.T) {
	s := made(t, 9)
	for k := range 3 {
		fine(t, s.See(k, in(15-k, 7)))
		tick(t, s, k, 3)
		says(t, s, (k+1)%3, k, sampleOf((k+1)%3, 0, in(15, 7)))
		fine(t, s.Deliver(s.Many()-1))
	}
	for k := range 3 {
		fine(t, s.Crash(k))
	}
	loseBehind(t, s, 0)
	alike(t, "all of them fell", s, made(t, 9))
}

func TestWhatIsUnderWayStaysSoBehindACrash(t *testing.T) {
	for k := range 3 {
		a, b := others(k)
		for fell := range 3 {
			s := made(t, 9)
			fine(t, s.See(k, in(13, 5)))
			tick(t, s, k, 1)
			fine(t, s.Asks(k))
			fine(t, s.Crash(fell))
			underWay(t, "behind a Crash", s, sample, sample, ask, ask)
			isSample(t, "of, or for, one that fell", s, fell%2, k, []int{a, b}[fell%2], in(13, 5))
		}
	}
}

// saysWant is what Says answers, as it is told.
func saysWant(k, to, n int) api.Errno {
	if k < 0 || k > 2 || to < 0 || to > 3 {
		return api.ErrRange
	}
	if k == to {
		return api.ErrArg
	}
	if n > 80 {
		return api.ErrLimit
	}
	return api.OK
}

func TestSaysConditions(t *testing.T) {
	for _, k := range append([]int{0, 1, 2}, beyond...) {
		for _, to := range append([]int{0, 1, 2}, beyond...) {
			for _, n := range []int{0, 1, 13, 79, 80, 81, 82, 1000} {
				what := fmt.Sprintf("Says of %d to %d, %d bytes", k, to, n)
				s := made(t, 9)
				tick(t, s, 1, 1)
				b := make([]byte, n)
				want := saysWant(k, to, n)
				if want != api.OK {
					refused(t, what, s, want, func() error { return s.Says(k, to, b) })
					continue
				}
				is(t, what, s.Says(k, to, b), api.OK)
				underWay(t, what, s, sample, sample, n)
			}
		}
	}
}

func TestSaysSendsThatOfThatReplicaToThatOne(t *testing.T) {
	for k := range 3 {
		a, b := others(k)
		s := made(t, 9)
		says(t, s, k, api.Voter, voteOf(k, 0, com(15, 5, 1)))
		isVote(t, "what is said", s, 0, k, com(15, 5, 1))
		for _, to := range []int{a, b} {
			s = made(t, 9)
			says(t, s, k, to, sampleOf(k, 0, in(13, 5)))
			isSample(t, "what is said", s, 0, k, to, in(13, 5))
		}
	}
}

func TestWhatIsSaidMayBeChangedLater(t *testing.T) {
	memory := append(written(voteOf(1, 0, com(15, 5, 1))), 77, 78, 79)
	b := memory[:len(memory)-3]
	before := slices.Clone(memory)
	s := made(t, 9)
	fine(t, s.Says(1, api.Voter, b))
	if !slices.Equal(memory, before) {
		t.Errorf("%v became %v", before, memory)
	}
	for i := range memory {
		memory[i] = 99
	}
	fine(t, s.Twice(0))
	fine(t, s.Spoil(0, 0, 1<<31))
	if memory[0] != 99 {
		t.Errorf("Spoil wrote into the caller's list: %v", memory)
	}
	isVote(t, "what was said", s, 1, 1, com(15, 5, 1))
}

// full is a system with so many under way as there may be: Says of 1 to 79 bytes, again and again.
func full(t *testing.T) *system.System {
	t.Helper()
	s := made(t, 9)
	for i := range api.MaxNet {
		if s.Many() != i || s.Lost() != 0 {
			t.Fatalf("behind %d: %d under way, %d lost", i, s.Many(), s.Lost())
		}
		fine(t, s.Says(0, 1, make([]byte, 1+i%79)))
	}
	return s
}

// holds fails unless so many are under way, and lost.
func holds(t *testing.T, what string, s *system.System, many, lost int) {
	t.Helper()
	if s.Many() != many || s.Lost() != lost {
		t.Errorf("%s: %d under way, %d lost; not %d, %d", what, s.Many(), s.Lost(), many, lost)
	}
}

func TestWithMaxNetUnderWayWhatIsSentIsLost(t *testing.T) {
	s := full(t)
	holds(t, "as many as may be", s, 120, 0)
	fine(t, s.Says(0, 1, nil))
	holds(t, "Says", s, 120, 1)
	fine(t, s.Twice(5))
	holds(t, "Twice", s, 120, 2)
	fine(t, s.Asks(2))
	holds(t, "Asks", s, 120, 4)
	tick(t, s, 0, 1)
	holds(t, "a sample", s, 120, 6)
	tick(t, s, 0, 2)
	holds(t, "two samples, and an ask", s, 120, 11)
	fine(t, s.Lose(119))
	holds(t, "Lose", s, 119, 11)
	tick(t, s, 1, 1)
	holds(t, "a sample", s, 120, 12)
	fine(t, s.Deliver(119))
	fine(t, s.Deliver(7))
	holds(t, "what is nothing", s, 118, 12)
}

func TestWhatIsLostIsTheLastOneSent(t *testing.T) {
	s := full(t)
	fine(t, s.Lose(119))
	// The sample to replica 0 finds room, that to replica 1 does not.
	fine(t, s.See(2, in(13, 5)))
	tick(t, s, 2, 1)
	holds(t, "two samples", s, 120, 1)
	isSample(t, "the first one", s, 119, 2, 0, in(13, 5))
}

func TestWhatComesLeavesItsRoom(t *testing.T) {
	s := full(t)
	fine(t, s.Lose(60))
	says(t, s, 0, 1, askOf(0, 0))
	holds(t, "an Ask", s, 120, 0)
	fine(t, s.Deliver(119))
	holds(t, "a Known in its place", s, 120, 0)

	s = full(t)
	fine(t, s.Lose(0))
	fine(t, s.Lose(0))
	says(t, s, 0, api.Voter, voteOf(0, 0, com(15, 5, 1)))
	says(t, s, 1, api.Voter, voteOf(1, 0, com(15, 5, 1)))
	fine(t, s.Deliver(118))
	holds(t, "a vote", s, 119, 0)
	fine(t, s.Says(0, 1, nil))
	fine(t, s.Deliver(118))
	// Of three one finds room: that to replica 0.
	holds(t, "told to all", s, 120, 2)
	traced(t, "told to all", s, com(15, 5, 1))
	fine(t, s.Deliver(119))
	stands(t, "told to all", s, 0, 1, states(t, line(), s.Trace())[1])
}

func TestALostOneIsNotCountedTwice(t *testing.T) {
	s := full(t)
	fine(t, s.Says(0, 1, nil))
	loseBehind(t, s, 0)
	holds(t, "Lose of all", s, 0, 1)
	fine(t, s.Says(0, 1, nil))
	deliver(t, s, 1)
	holds(t, "one more", s, 0, 1)
}

func TestTheVotersAreTold(t *testing.T) {
	s := made(t, 9)
	l := []api.Commit{com(15, 5, 1), com(15, 7, 2), com(3, 1, 4)}
	for n, c := range l {
		commits(t, s, nil, c)
		traced(t, "committed", s, l[:n+1]...)
		if s.Shown() != c.Out || s.Latched() || s.Out() != 0 {
			t.Errorf("behind %+v: %+v", c, seen(s))
		}
	}
	// Replica 2 says another Out of the same In.
	says(t, s, 2, api.Voter, voteOf(2, 3, com(3, 1, 5)))
	deliver(t, s, 1)
	commits(t, s, nil, com(3, 1, 4))
	if s.Out() != 4 || s.Latched() || s.Shown() != 4 {
		t.Errorf("one is out: %+v", seen(s))
	}
}

func TestTraceIsFreshMemory(t *testing.T) {
	s := made(t, 9)
	commits(t, s, nil, com(15, 5, 1), com(15, 7, 2))
	l := s.Trace()
	again := s.Trace()
	for i := range l[:cap(l)] {
		l[:cap(l)][i] = com(9, 9, 9)
	}
	traced(t, "a list that was written into", s, com(15, 5, 1), com(15, 7, 2))
	if !slices.Equal(again, []api.Commit{com(15, 5, 1), com(15, 7, 2)}) {
		t.Errorf("another list became %+v", again)
	}
	commits(t, s, nil, com(1, 1, 1))
	if len(again) != 2 {
		t.Errorf("another list became %+v", again)
	}
}

func TestLatch(t *testing.T) {
	s := made(t, 9)
	s.Latch()
	if got := seen(s); !same(got, view{latched: true}) {
		t.Errorf("Latch: %+v", got)
	}
	s = busy(t)
	was := seen(s)
	s.Latch()
	was.latched, was.shown = true, 0
	if now := seen(s); !same(now, was) {
		t.Errorf("Latch: %+v, not %+v", now, was)
	}
	loseBehind(t, s, 0)
	says(t, s, 0, api.Voter, voteOf(0, 2, com(15, 5, 1)))
	says(t, s, 1, api.Voter, voteOf(1, 2, com(15, 5, 1)))
	deliver(t, s, 2)
	traced(t, "a voter that is latched", s, com(15, 5, 1), com(15, 7, 1))
	s.Calm(5)
	s.Latch()
	if !s.Latched() || s.Shown() != 0 || len(s.Trace()) != 2 {
		t.Errorf("behind Latch: %+v", seen(s))
	}
}

func TestAsksAndTicksTellOfTheirCycle(t *testing.T) {
	l := []api.Commit{com(15, 5, 1), com(15, 7, 1)}
	after := states(t, line(), l)
	s := made(t, 9)
	commits(t, s, []int{0, 1, 2}, l...)
	x := in(15, 7)
	fine(t, s.See(0, x))
	says(t, s, 1, 0, sampleOf(1, 2, x))
	says(t, s, 2, 0, frame.Frame{Kind: frame.Sample, From: 2, Cycle: 2, In: x})
	deliver(t, s, 2)
	tick(t, s, 0, 1)
	_, out := stepped(t, after[2], x)
	isVote(t, "in cycle 2", s, 2, 0, api.Commit{In: x, Out: out})
}
