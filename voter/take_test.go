package voter_test

import (
	"math"
	"slices"
	"testing"

	"triumvir/api"
	"triumvir/frame"
)

// Two things to vote for of the same In, and one of another one.
var (
	yes   = com(15, 5, 1)
	no    = com(15, 5, 4)
	other = com(7, 5, 1)
)

func TestTakeOfEachKind(t *testing.T) {
	for kind := -1; kind <= frame.Known+2; kind++ {
		v := made(t, 5)
		twoCommit(t, v, yes, other)
		old := voteOf(2, 0, yes)
		old.Kind = kind
		if kind == frame.Vote || kind == frame.Ask {
			tells(t, v, old, doneOf(0, yes), doneOf(1, other))
		} else {
			quiet(t, v, old)
		}
		now := voteOf(2, 2, yes)
		now.Kind = kind
		quiet(t, v, now)
		if kind == frame.Vote {
			commits(t, v, voteOf(0, 2, yes))
		} else {
			quiet(t, v, voteOf(0, 2, yes))
		}
	}
}

func TestTakeOfEachFrom(t *testing.T) {
	for _, from := range []int{math.MinInt, -64, -3, -2, -1, 0, 1, 2, 3, 4, 63, 64, 65, 1 << 32, 1<<32 + 1, math.MaxInt} {
		v := made(t, 5)
		twoCommit(t, v, yes, other)
		if from < 0 || from > 2 {
			quiet(t, v, voteOf(from, 0, yes))
			quiet(t, v, askOf(from, 1))
			quiet(t, v, voteOf(from, 2, yes))
			quiet(t, v, voteOf(0, 2, yes))
			quiet(t, v, voteOf(from, 2, yes))
			continue
		}
		tells(t, v, voteOf(from, 0, no), doneOf(0, yes), doneOf(1, other))
		tells(t, v, askOf(from, 1), doneOf(1, other))
		quiet(t, v, voteOf(from, 2, yes))
		commits(t, v, voteOf((from+1)%3, 2, yes))
	}
}

func TestTakeOfEachCycle(t *testing.T) {
	for _, cycle := range []int{math.MinInt, -2, -1, 4, 5, 1 << 32, 1<<32 + 3, math.MaxInt} {
		v := made(t, 5)
		twoCommit(t, v, yes, other, no)
		quiet(t, v, voteOf(0, cycle, yes))
		quiet(t, v, voteOf(1, cycle, yes))
		quiet(t, v, askOf(1, cycle))
		// It was no vote of the voter's own cycle, either.
		quiet(t, v, voteOf(2, 3, yes))
	}
	v := made(t, 5)
	quiet(t, v, askOf(0, 0))
	quiet(t, v, askOf(0, -1))
	twoCommit(t, v, yes, other, no)
	tells(t, v, askOf(0, 0), doneOf(0, yes), doneOf(2, no))
	tells(t, v, askOf(0, 1), doneOf(1, other), doneOf(2, no))
	tells(t, v, askOf(0, 2), doneOf(2, no))
	quiet(t, v, askOf(0, 3))
	quiet(t, v, voteOf(0, 3, yes))
	commits(t, v, voteOf(1, 3, yes))
}

func TestOneThatIsOutIsNotListenedTo(t *testing.T) {
	for k := range api.Replicas {
		a, b := (k+1)%3, (k+2)%3
		v := made(t, 5)
		twoCommit(t, v, other)
		quiet(t, v, voteOf(k, 1, no))
		quiet(t, v, voteOf(a, 1, yes))
		commits(t, v, voteOf(b, 1, yes))
		if v.Out() != 1<<k {
			t.Fatalf("out are %d, not %d", v.Out(), 1<<k)
		}
		for cycle := range 4 {
			quiet(t, v, askOf(k, cycle))
			quiet(t, v, voteOf(k, cycle, yes))
		}
		// The others are.
		tells(t, v, askOf(a, 0), doneOf(0, other), doneOf(1, yes))
		quiet(t, v, voteOf(k, 2, yes))
		quiet(t, v, voteOf(a, 2, yes))
		quiet(t, v, voteOf(k, 2, yes))
		commits(t, v, voteOf(b, 2, yes))
		looks(t, "with one out", v, view{trace: []api.Commit{other, yes, yes}, shown: 1, out: 1 << k})
	}
}

func TestWhatWasCommittedIsToldToOneThatIsLate(t *testing.T) {
	v := made(t, 3)
	var all []api.Commit
	for i := range 8 {
		all = append(all, com(i, 8-i, i*i))
	}
	twoCommit(t, v, all...)
	for _, latched := range []bool{false, true} {
		if latched {
			v.Latch()
		}
		for cycle, c := range all[:7] {
			tells(t, v, askOf(2, cycle), doneOf(cycle, c), doneOf(7, all[7]))
			tells(t, v, voteOf(2, cycle, no), doneOf(cycle, c), doneOf(7, all[7]))
		}
		tells(t, v, askOf(2, 7), doneOf(7, all[7]))
		tells(t, v, voteOf(2, 7, all[7]), doneOf(7, all[7]))
		quiet(t, v, askOf(2, 8))
	}
	if v.Out() != 0 {
		t.Errorf("one that is late is out: %d", v.Out())
	}
}

func TestTheSameTwiceIsToldTwice(t *testing.T) {
	v := made(t, 3)
	twoCommit(t, v, yes, yes)
	tells(t, v, askOf(2, 0), doneOf(0, yes), doneOf(1, yes))
}

func TestALateVoteIsNoVote(t *testing.T) {
	v := made(t, 3)
	twoCommit(t, v, yes)
	tells(t, v, voteOf(2, 0, other), doneOf(0, yes))
	quiet(t, v, voteOf(1, 1, other))
}

func TestAVoteOfACycleBehindIsNoVote(t *testing.T) {
	v := made(t, 3)
	quiet(t, v, voteOf(0, 1, yes))
	quiet(t, v, voteOf(0, 0, other))
	commits(t, v, voteOf(1, 0, other))
	quiet(t, v, voteOf(1, 1, yes))
	commits(t, v, voteOf(0, 1, yes))
}

func TestAnAskIsNoVote(t *testing.T) {
	v := made(t, 3)
	quiet(t, v, voteOf(0, 0, yes))
	ask := voteOf(1, 0, yes)
	ask.Kind = frame.Ask
	quiet(t, v, ask)
	// Nor does it take the place of one.
	quiet(t, v, askOf(0, 0))
	commits(t, v, voteOf(2, 0, yes))
}

func TestTwoThatAreTheSameCommit(t *testing.T) {
	for a := range api.Replicas {
		for b := range api.Replicas {
			v := made(t, 3)
			quiet(t, v, voteOf(a, 0, yes))
			if a == b {
				// Who says it twice is still one.
				quiet(t, v, voteOf(b, 0, yes))
				continue
			}
			commits(t, v, voteOf(b, 0, yes))
			looks(t, "two alike", v, view{trace: []api.Commit{yes}, shown: 1})
		}
	}
}

func TestNoughtsAreAVote(t *testing.T) {
	v := made(t, 3)
	quiet(t, v, voteOf(1, 0, api.Commit{}))
	commits(t, v, voteOf(0, 0, api.Commit{}))
	looks(t, "noughts", v, view{trace: []api.Commit{{}}})
	// Who did not vote said nothing else, either.
	twoCommit(t, v, com(0, 0, 1))
	looks(t, "two alike", v, view{trace: []api.Commit{{}, com(0, 0, 1)}, shown: 1})
	// And who voted noughts did.
	quiet(t, v, voteOf(2, 2, api.Commit{}))
	twoCommit(t, v, com(0, 0, 1))
	if v.Out() != 4 {
		t.Errorf("out are %d", v.Out())
	}
}

func TestTwoThatAreNotTheSameDoNotCommit(t *testing.T) {
	for _, c := range []api.Commit{com(15, 5, 0), com(15, 5, 5), com(15, 4, 1), com(14, 5, 1), com(5, 15, 1), com(1, 5, 15), {}} {
		v := made(t, 3)
		quiet(t, v, voteOf(0, 0, yes))
		quiet(t, v, voteOf(1, 0, c))
		looks(t, "two votes", v, view{})
	}
	v := made(t, 3)
	quiet(t, v, voteOf(0, 0, yes))
	quiet(t, v, voteOf(1, 0, no))
	quiet(t, v, voteOf(2, 0, other))
	looks(t, "three votes", v, view{})
}

func TestAVoteTakesThePlaceOfTheOneAhead(t *testing.T) {
	v := made(t, 3)
	quiet(t, v, voteOf(0, 0, yes))
	quiet(t, v, voteOf(0, 0, other))
	quiet(t, v, voteOf(1, 0, yes))
	commits(t, v, voteOf(2, 0, other))
	looks(t, "by the later vote", v, view{trace: []api.Commit{other}, shown: 1})

	// Who said otherwise, and took it back, is not out.
	v = made(t, 3)
	quiet(t, v, voteOf(2, 0, no))
	quiet(t, v, voteOf(2, 0, other))
	twoCommit(t, v, yes)
	looks(t, "taken back", v, view{trace: []api.Commit{yes}, shown: 1})

	// Who said it alike, and then otherwise, is.
	v = made(t, 3)
	quiet(t, v, voteOf(2, 0, yes))
	quiet(t, v, voteOf(2, 0, no))
	twoCommit(t, v, yes)
	looks(t, "not taken back", v, view{trace: []api.Commit{yes}, shown: 1, out: 4})
}

func TestWhoIsOutBehindACommit(t *testing.T) {
	for k := range api.Replicas {
		a, b := (k+1)%3, (k+2)%3
		for _, c := range []struct {
			vote api.Commit
			out  int
		}{
			{no, 1 << k}, {com(15, 5, 0), 1 << k}, {com(15, 5, -1), 1 << k},
			{other, 0}, {com(14, 5, 4), 0}, {com(15, 4, 4), 0}, {com(0, 0, 0), 0},
		} {
			v := made(t, 3)
			quiet(t, v, voteOf(a, 0, yes))
			quiet(t, v, voteOf(k, 0, c.vote))
			commits(t, v, voteOf(b, 0, yes))
			looks(t, "with a third vote", v, view{trace: []api.Commit{yes}, shown: 1, out: c.out})
		}
		// Who votes otherwise behind the commit is late, not out.
		v := made(t, 3)
		quiet(t, v, voteOf(a, 0, yes))
		commits(t, v, voteOf(b, 0, yes))
		tells(t, v, voteOf(k, 0, no), doneOf(0, yes))
		looks(t, "with a late vote", v, view{trace: []api.Commit{yes}, shown: 1})
	}
}

func TestNobodyElseCanBeOutBehindTheFirst(t *testing.T) {
	v := made(t, 3)
	quiet(t, v, voteOf(2, 0, no))
	twoCommit(t, v, yes)
	quiet(t, v, voteOf(0, 1, yes))
	quiet(t, v, voteOf(1, 1, no))
	quiet(t, v, voteOf(2, 1, no))
	looks(t, "two that are left, not alike", v, view{trace: []api.Commit{yes}, shown: 1, out: 4})
	commits(t, v, voteOf(0, 1, no))
	looks(t, "two that are left, alike", v, view{trace: []api.Commit{yes, no}, shown: 4, out: 4})
}

func TestANewCycleHasNoVotes(t *testing.T) {
	v := made(t, 3)
	quiet(t, v, voteOf(2, 0, other))
	twoCommit(t, v, yes)
	// None of the cycle ahead seconds one: neither the third one's nor those that were committed.
	quiet(t, v, voteOf(0, 1, other))
	quiet(t, v, voteOf(2, 1, yes))
	// Nor is one out by it.
	v = made(t, 3)
	quiet(t, v, voteOf(2, 0, other))
	twoCommit(t, v, yes, com(7, 5, 0))
	looks(t, "of another cycle", v, view{trace: []api.Commit{yes, com(7, 5, 0)}})
}

func TestANewCycleHasWindowTicksLeft(t *testing.T) {
	for window := 1; window <= api.MaxDelay; window++ {
		for gone := range window {
			v := made(t, window)
			ticks(v, gone)
			twoCommit(t, v, yes)
			ticks(v, window-1)
			twoCommit(t, v, other)
			ticksLeft(t, "behind a commit", v, window)
		}
	}
}

func TestAVoteAloneLeavesNoMoreTicks(t *testing.T) {
	v := made(t, 4)
	twoCommit(t, v, yes)
	v.Tick()
	quiet(t, v, voteOf(0, 1, yes))
	quiet(t, v, voteOf(1, 1, no))
	tells(t, v, askOf(2, 0), doneOf(0, yes))
	ticksLeft(t, "with votes", v, 3)
}

func TestALatchedOneCommitsNothing(t *testing.T) {
	v := made(t, 4)
	twoCommit(t, v, other)
	quiet(t, v, voteOf(0, 1, yes))
	v.Latch()
	quiet(t, v, voteOf(1, 1, yes))
	quiet(t, v, voteOf(2, 1, yes))
	quiet(t, v, askOf(2, 1))
	looks(t, "latched", v, view{trace: []api.Commit{other}, latched: true})
}

func TestTheLastCycle(t *testing.T) {
	v := made(t, 1)
	var all []api.Commit
	for i := range api.MaxCycles {
		all = append(all, com(i, i%7, i%5+1))
	}
	last := all[api.MaxCycles-1]
	twoCommit(t, v, all[:api.MaxCycles-1]...)
	looks(t, "one ahead of the last cycle", v, view{trace: all[:api.MaxCycles-1], shown: all[api.MaxCycles-2].Out})
	quiet(t, v, voteOf(2, api.MaxCycles-1, com(last.In.Clear, last.In.Wanted, 0)))
	twoCommit(t, v, last)
	want := view{trace: all, latched: true, out: 4}
	looks(t, "the last cycle", v, want)
	tells(t, v, askOf(0, 0), doneOf(0, all[0]), doneOf(api.MaxCycles-1, last))
	tells(t, v, voteOf(1, api.MaxCycles-1, yes), doneOf(api.MaxCycles-1, last))
	for k := range api.Replicas {
		quiet(t, v, voteOf(k, api.MaxCycles, yes))
		quiet(t, v, askOf(k, api.MaxCycles))
	}
	v.Tick()
	looks(t, "a tick behind the last cycle", v, want)
}

func TestOfAVoteInAndOutCountAlone(t *testing.T) {
	v := made(t, 2)
	a, b := voteOf(0, 0, yes), voteOf(1, 0, yes)
	a.State.Set = 1
	b.State.Used[7], b.State.Idle[7] = 3, 4
	quiet(t, v, a)
	commits(t, v, b)
	late := askOf(2, 0)
	late.State.Set, late.In, late.Out = 1, other.In, 9
	tells(t, v, late, doneOf(0, yes))
}

func TestWhatTakeTellsIsTheCallers(t *testing.T) {
	v := made(t, 2)
	quiet(t, v, voteOf(0, 0, yes))
	first, _ := v.Take(voteOf(1, 0, yes))
	first[0] = frame.Frame{}
	twoCommit(t, v, other)
	second, _ := v.Take(askOf(0, 0))
	third, _ := v.Take(askOf(0, 0))
	for i := range second {
		second[i] = frame.Frame{}
	}
	_ = append(second, frame.Frame{Kind: 9}, frame.Frame{Kind: 9})
	if !slices.Equal(third, []frame.Frame{doneOf(0, yes), doneOf(1, other)}) {
		t.Errorf("two answers share memory: %v", third)
	}
	tells(t, v, askOf(0, 0), doneOf(0, yes), doneOf(1, other))
	looks(t, "written into", v, view{trace: []api.Commit{yes, other}, shown: 1})
}

func TestADoneIsAFrameThatMayBe(t *testing.T) {
	v := made(t, 2)
	quiet(t, v, voteOf(0, 0, yes))
	l, _ := v.Take(voteOf(1, 0, yes))
	for _, f := range l {
		b, err := frame.Encode(f)
		if err != nil {
			t.Fatalf("Encode of %v: %v", f, err)
		}
		if back, err := frame.Decode(b); err != nil || back != f {
			t.Errorf("Decode of %v: %v, %v", f, back, err)
		}
	}
}
