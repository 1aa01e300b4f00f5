package voter_test

import (
	"errors"
	"math"
	"slices"
	"testing"

	"triumvir/api"
	"triumvir/voter"
)

func TestNewTellsWhichWindowsMayBe(t *testing.T) {
	for _, c := range []struct {
		window int
		errno  api.Errno
	}{
		{math.MinInt, api.ErrRange}, {-1, api.ErrRange}, {0, api.ErrRange},
		{1, api.OK}, {2, api.OK}, {api.MaxDelay - 1, api.OK}, {api.MaxDelay, api.OK},
		{api.MaxDelay + 1, api.ErrRange}, {1<<32 + 1, api.ErrRange}, {math.MaxInt, api.ErrRange},
	} {
		v, err := voter.New(c.window)
		if api.Tell(err) != c.errno {
			t.Errorf("New of %d: error %d, not %d", c.window, api.Tell(err), c.errno)
		}
		if (v == nil) != (err != nil) {
			t.Errorf("New of %d: %v beside %v", c.window, v, err)
		}
		var at *api.At
		if errors.As(err, &at) {
			t.Errorf("New of %d: an At in the error", c.window)
		}
	}
}

func TestANewVoterHasNothing(t *testing.T) {
	for window := 1; window <= api.MaxDelay; window++ {
		v := made(t, window)
		looks(t, "new", v, view{})
		quiet(t, v, askOf(0, 0))
		for k := range api.Replicas {
			quiet(t, v, voteOf(k, 0, com(k, 0, 0)))
		}
	}
}

func TestANewVoterIsInCycle0(t *testing.T) {
	v := made(t, 1)
	quiet(t, v, voteOf(0, 1, com(1, 1, 1)))
	quiet(t, v, voteOf(1, 1, com(1, 1, 1)))
	quiet(t, v, voteOf(0, 0, com(1, 1, 1)))
	commits(t, v, voteOf(1, 0, com(1, 1, 1)))
}

func TestTheLastTickLatches(t *testing.T) {
	for window := 1; window <= api.MaxDelay; window++ {
		ticksLeft(t, "new", made(t, window), window)
	}
}

func TestTickLeavesAllElse(t *testing.T) {
	v := made(t, 3)
	twoCommit(t, v, com(15, 5, 1))
	quiet(t, v, voteOf(2, 1, com(7, 1, 0)))
	v.Tick()
	v.Tick()
	looks(t, "two ticks", v, view{trace: []api.Commit{com(15, 5, 1)}, shown: 1})
	commits(t, v, voteOf(0, 1, com(7, 1, 0)))
}

func TestLatchIsForGood(t *testing.T) {
	for _, c := range []struct {
		name  string
		latch func(v *voter.Voter)
	}{
		{"Latch", func(v *voter.Voter) { v.Latch() }},
		{"Latch twice", func(v *voter.Voter) { v.Latch(); v.Latch() }},
		{"Tick", func(v *voter.Voter) { ticks(v, 2) }},
		{"Tick, then Latch", func(v *voter.Voter) { ticks(v, 2); v.Latch() }},
		{"a Tick, then Latch", func(v *voter.Voter) { v.Tick(); v.Latch() }},
	} {
		v := made(t, 2)
		twoCommit(t, v, com(15, 5, 1), com(7, 1, 4))
		c.latch(v)
		want := view{trace: []api.Commit{com(15, 5, 1), com(7, 1, 4)}, latched: true}
		looks(t, c.name, v, want)
		for range 3 * api.MaxDelay {
			v.Tick()
			looks(t, c.name+", and a tick", v, want)
		}
		v.Latch()
		looks(t, c.name+", and Latch", v, want)
		quiet(t, v, voteOf(0, 2, com(1, 1, 1)))
		quiet(t, v, voteOf(1, 2, com(1, 1, 1)))
	}
}

func TestLatchOfANewOne(t *testing.T) {
	v := made(t, api.MaxDelay)
	v.Latch()
	looks(t, "latched", v, view{latched: true})
}

func TestShownIsTheLastOnesOut(t *testing.T) {
	v := made(t, 2)
	if v.Shown() != 0 {
		t.Errorf("new: it shows %d", v.Shown())
	}
	for _, out := range []int{1, 6, 0, 255, 2} {
		twoCommit(t, v, com(15, 7, out))
		if v.Shown() != out {
			t.Errorf("behind a commit of %d: it shows %d", out, v.Shown())
		}
		// A vote alone shows nothing.
		quiet(t, v, voteOf(0, len(v.Trace()), com(15, 7, 128)))
		if v.Shown() != out {
			t.Errorf("behind a commit of %d, and a vote: it shows %d", out, v.Shown())
		}
	}
	v.Latch()
	if v.Shown() != 0 {
		t.Errorf("latched: it shows %d", v.Shown())
	}
}

func TestTraceIsTheCallers(t *testing.T) {
	v := made(t, 1)
	var all []api.Commit
	for i := range 40 {
		c := com(i, i+1, i+2)
		twoCommit(t, v, c)
		all = append(all, c)
		first, second := v.Trace(), v.Trace()
		for k := range first {
			first[k] = com(-1, -1, -1)
		}
		// Behind its length may lie nothing that the voter, or another answer, uses.
		_ = append(first, com(-2, -2, -2), com(-3, -3, -3))
		if !slices.Equal(second, all) || !slices.Equal(v.Trace(), all) {
			t.Fatalf("a list that was told is written into: %v", v.Trace())
		}
		tells(t, v, askOf(0, i), doneOf(i, c))
		if v.Shown() != i+2 {
			t.Fatalf("a list that was told is written into: it shows %d", v.Shown())
		}
	}
}

func TestATraceThatWasToldStays(t *testing.T) {
	v := made(t, 1)
	var told [][]api.Commit
	for i := range 40 {
		told = append(told, v.Trace())
		twoCommit(t, v, com(i, 0, i))
	}
	all := v.Trace()
	for i, l := range told {
		if !slices.Equal(l, all[:i]) {
			t.Errorf("what was told behind %d commits became %v", i, l)
		}
	}
}

func TestVotersAreTheirOwn(t *testing.T) {
	a, b := made(t, 2), made(t, 2)
	quiet(t, a, voteOf(0, 0, com(1, 1, 1)))
	quiet(t, b, voteOf(1, 0, com(1, 1, 1)))
	a.Tick()
	b.Tick()
	looks(t, "the one", a, view{})
	commits(t, a, voteOf(2, 0, com(1, 1, 1)))
	looks(t, "the other", b, view{})
	a.Latch()
	looks(t, "the other", b, view{})
}
