package replica_test

import (
	"math"
	"slices"
	"testing"

	"triumvir/api"
	"triumvir/frame"
	"triumvir/replica"
)

// used is a state in which route 0 is set, and a train is in it.
func used() api.State {
	s := set(1)
	s.Used[0], s.Idle[0] = 1, 5
	return s
}

// inCycle are calls behind which a replica is in a cycle, with samples, ticks and something told.
func inCycle(id, cycle int) []call {
	a, b := others(id)
	var l []call
	for k := range cycle {
		l = append(l, take(doneOf(k, in(15, 1))))
	}
	return append(l, see(in(15, 7)), tick, take(sampleOf(a, cycle, in(14, 3))), tick, take(sampleOf(b, cycle, in(13, 5))), take(knownOf(a, cycle+2, set(1))))
}

func TestASampleOfAnotherReplica(t *testing.T) {
	for id := range api.Replicas {
		a, b := others(id)
		for _, from := range []int{a, b} {
			r := made(t, id)
			r.See(in(15, 7))
			r.Tick()
			takes(t, r, sampleOf(from, 0, in(9, 5)))
			fuses(t, "two", r, in(9, 5))
			stands(t, r, 0, api.State{})
			takes(t, r, sampleOf(from, 0, in(6, 2)))
			fuses(t, "one in the place of one ahead", r, in(6, 2))
			takes(t, r, sampleOf(from, 0, in(0, 0)))
			fuses(t, "one without bits in the place of one ahead", r, in(0, 0))
		}
	}
}

func TestASampleByWhomItIsNotOf(t *testing.T) {
	for id := range api.Replicas {
		for _, from := range []int{id, api.Voter} {
			unmoved(t, id, sampleOf(from, 0, in(9, 5)))
			unmoved(t, id, sampleOf(from, 0, in(9, 5)), see(in(15, 7)), tick)
			unmoved(t, id, sampleOf(from, 2, in(9, 5)), inCycle(id, 2)...)
		}
	}
}

func TestASampleOfAnotherCycle(t *testing.T) {
	for id := range api.Replicas {
		a, b := others(id)
		for _, from := range []int{a, b} {
			for _, cycle := range []int{0, 1, 3, 4, api.MaxNumber} {
				unmoved(t, id, sampleOf(from, cycle, in(9, 5)), inCycle(id, 2)...)
			}
			unmoved(t, id, sampleOf(from, 1, in(9, 5)))
		}
	}
}

func TestASampleIsFitted(t *testing.T) {
	r := made(t, 0)
	r.See(in(-1, -1))
	r.Tick()
	takes(t, r, sampleOf(1, 0, in(api.MaxNumber-1, api.MaxNumber-1)))
	takes(t, r, sampleOf(2, 0, in(api.MaxNumber-1, api.MaxNumber-1)))
	fuses(t, "three", r, in(15, 7))
	says(t, r, voteOf(0, 0, in(15, 7), 3))
}

func TestADoneOfItsCycle(t *testing.T) {
	for id := range api.Replicas {
		r := made(t, id)
		var s api.State
		for cycle, x := range []api.Input{in(15, 5), in(14, 5), in(15, 6), in(0, 0), in(api.MaxNumber, api.MaxNumber)} {
			s, _ = step(t, s, x)
			takes(t, r, doneOf(cycle, x))
			stands(t, r, cycle+1, s)
		}
	}
}

func TestADonesOutCountsForNothing(t *testing.T) {
	r := made(t, 0)
	f := doneOf(0, in(15, 1))
	f.Out = 4
	takes(t, r, f)
	stands(t, r, 1, set(1))
}

func TestADoneOfACycleAhead(t *testing.T) {
	for id := range api.Replicas {
		for cycle := range 3 {
			unmoved(t, id, doneOf(cycle, in(15, 2)), inCycle(id, 3)...)
		}
	}
}

func TestADoneOfACycleAheadIsNothingThoughItKnowsOfOneBehind(t *testing.T) {
	for id := range api.Replicas {
		for cycle := range 2 {
			unmoved(t, id, doneOf(cycle, in(15, 2)), append(inCycle(id, 2), take(doneOf(7, in(0, 0))))...)
		}
	}
}

func TestADoneByAReplica(t *testing.T) {
	for id := range api.Replicas {
		for from := range api.Replicas {
			for cycle := range 5 {
				f := doneOf(cycle, in(15, 2))
				f.From = from
				unmoved(t, id, f, inCycle(id, 2)...)
			}
		}
	}
}

func TestADoneOfACycleBehindItsOwn(t *testing.T) {
	for id := range api.Replicas {
		for _, cycle := range []int{3, 4, 9, api.MaxNumber} {
			r := made(t, id)
			tape(r, inCycle(id, 2)...)
			was := seen(r)
			takes(t, r, doneOf(cycle, in(15, 2)), askOf(id, 2))
			if seen(r) != was {
				t.Errorf("%+v became %+v", was, seen(r))
			}
			// Samples and ticks are as they were: three samples vote, then two, for three ticks went by.
			says(t, r, voteOf(id, 2, in(15, 7), 3))
			says(t, r, voteOf(id, 2, in(13, 5), 0))
			says(t, r, askOf(id, 2))
		}
	}
}

func TestADoneOfACycleBehindLeavesWhatWasTold(t *testing.T) {
	r := made(t, 0)
	takes(t, r, knownOf(1, 3, set(1)))
	takes(t, r, doneOf(7, in(15, 2)), askOf(0, 0))
	takes(t, r, knownOf(2, 3, set(1)))
	stands(t, r, 3, set(1))
}

func TestItAsksUntilItIsBehindAhead(t *testing.T) {
	for id := range api.Replicas {
		r := made(t, id)
		takes(t, r, doneOf(3, in(0, 0)), askOf(id, 0))
		// A lesser one does not take the greater one's place.
		takes(t, r, doneOf(1, in(0, 0)), askOf(id, 0))
		for cycle := range 3 {
			takes(t, r, doneOf(cycle, in(15, 1)), askOf(id, cycle+1))
			if r.Cycle() != cycle+1 {
				t.Fatalf("it is in cycle %d, not %d", r.Cycle(), cycle+1)
			}
		}
		takes(t, r, doneOf(3, in(15, 1)))
		takes(t, r, doneOf(4, in(15, 1)))
		stands(t, r, 5, set(1))
	}
}

func TestAheadLastsWhenItLearns(t *testing.T) {
	for _, c := range []struct {
		cycle int
		asks  bool
	}{{3, true}, {4, true}, {5, false}, {6, false}} {
		r := made(t, 2)
		takes(t, r, doneOf(5, in(0, 0)), askOf(2, 0))
		takes(t, r, knownOf(0, c.cycle, set(1)))
		takes(t, r, knownOf(1, c.cycle, set(1)))
		stands(t, r, c.cycle, set(1))
		if c.asks {
			takes(t, r, doneOf(c.cycle, in(15, 1)), askOf(2, c.cycle+1))
		} else {
			takes(t, r, doneOf(c.cycle, in(15, 1)))
		}
		stands(t, r, c.cycle+1, set(1))
	}
}

func TestItSaysWhatItKnows(t *testing.T) {
	for id := range api.Replicas {
		a, b := others(id)
		for _, from := range []int{a, b} {
			for _, cycle := range []int{0, 1, 2, 3, 4, api.MaxNumber} {
				r := made(t, id)
				takes(t, r, askOf(from, cycle), knownOf(id, 0, api.State{}))
				tape(r, inCycle(id, 3)...)
				was := seen(r)
				s := r.State()
				if s == (api.State{}) {
					t.Fatal("nothing is set: that proves little")
				}
				takes(t, r, askOf(from, cycle), knownOf(id, 3, s))
				if seen(r) != was {
					t.Errorf("%+v became %+v", was, seen(r))
				}
			}
		}
	}
}

func TestItSaysAllOfWhatItKnows(t *testing.T) {
	r := made(t, 0)
	takes(t, r, knownOf(1, 4, used()))
	takes(t, r, knownOf(2, 4, used()))
	takes(t, r, askOf(1, 0), knownOf(0, 4, used()))
}

func TestAnAskByWhomItIsNotOf(t *testing.T) {
	for id := range api.Replicas {
		for _, from := range []int{id, api.Voter} {
			for cycle := range 4 {
				unmoved(t, id, askOf(from, cycle), inCycle(id, 2)...)
			}
		}
	}
}

func TestAnAskChangesNothing(t *testing.T) {
	for id := range api.Replicas {
		a, _ := others(id)
		for _, probe := range probes(id, 2) {
			with, without := made(t, id), made(t, id)
			tape(with, inCycle(id, 2)...)
			tape(without, inCycle(id, 2)...)
			with.Take(askOf(a, 2))
			if got, want := tape(with, probe...), tape(without, probe...); !slices.Equal(got, want) {
				t.Fatalf("behind an Ask: %v, not %v", got, want)
			}
		}
	}
}

func TestTwoThatToldJustTheSame(t *testing.T) {
	for id := range api.Replicas {
		a, b := others(id)
		for _, from := range [][2]int{{a, b}, {b, a}} {
			for _, cycle := range []int{1, 2, 7, api.MaxNumber} {
				for _, s := range []api.State{{}, set(3), used()} {
					r := made(t, id)
					takes(t, r, knownOf(from[0], cycle, s))
					stands(t, r, 0, api.State{})
					takes(t, r, knownOf(from[1], cycle, s))
					stands(t, r, cycle, s)
				}
			}
		}
	}
}

func TestAKnownOfACycleThatIsNotAboveItsOwn(t *testing.T) {
	for id := range api.Replicas {
		a, b := others(id)
		for cycle := range 4 {
			// The other one told it, too: that is nothing, either.
			unmoved(t, id, knownOf(a, cycle, used()), inCycle(id, 3)...)
			unmoved(t, id, knownOf(b, cycle, used()), append(inCycle(id, 3), take(knownOf(a, cycle, used())))...)
		}
		// Nor does that take the place of what it told ahead.
		r := made(t, id)
		takes(t, r, doneOf(0, in(15, 1)))
		takes(t, r, knownOf(a, 2, set(2)))
		takes(t, r, knownOf(a, 1, set(2)))
		takes(t, r, knownOf(b, 2, set(2)))
		stands(t, r, 2, set(2))
	}
}

func TestAKnownByWhomItIsNotOf(t *testing.T) {
	for id := range api.Replicas {
		a, b := others(id)
		for _, from := range []int{id, api.Voter} {
			unmoved(t, id, knownOf(from, 4, set(1)), inCycle(id, 2)...)
			for _, told := range []int{a, b} {
				unmoved(t, id, knownOf(from, 4, set(1)), take(knownOf(told, 4, set(1))))
			}
		}
	}
}

// wrongStates are not right: each by one thing alone.
func wrongStates() []api.State {
	var l []api.State
	for _, routes := range []int{5, 6, 7, 8, 9, api.MaxNumber} {
		l = append(l, set(routes))
	}
	for _, change := range []func(s *api.State){
		func(s *api.State) { s.Used[0] = 4 },
		func(s *api.State) { s.Used[1] = 4 },
		func(s *api.State) { s.Used[7] = 1 },
		func(s *api.State) { s.Idle[0] = 3 },
		func(s *api.State) { s.Idle[1] = 1 },
		func(s *api.State) { s.Idle[7] = 1 },
		func(s *api.State) { s.Used[0], s.Idle[0] = 1, api.MaxCycles+1 },
	} {
		s := set(1)
		change(&s)
		l = append(l, s)
	}
	return l
}

func TestAKnownOfAStateThatIsNotRight(t *testing.T) {
	for id := range api.Replicas {
		a, b := others(id)
		for _, s := range wrongStates() {
			unmoved(t, id, knownOf(a, 4, s), inCycle(id, 2)...)
			unmoved(t, id, knownOf(b, 4, s), append(inCycle(id, 2), take(knownOf(a, 4, s)))...)
			// Nor does that take the place of what it told ahead.
			r := made(t, id)
			takes(t, r, knownOf(a, 2, set(2)))
			takes(t, r, knownOf(a, 2, s))
			takes(t, r, knownOf(b, 2, set(2)))
			stands(t, r, 2, set(2))
		}
	}
}

func TestAKnownOfAStateThatIsJustRight(t *testing.T) {
	idle := set(1)
	idle.Idle[0] = 2
	long := used()
	long.Idle[0] = api.MaxCycles
	whole := used()
	whole.Used[0] = 3
	for _, s := range []api.State{set(4), idle, long, whole} {
		r := made(t, 0)
		takes(t, r, knownOf(1, 1, s))
		takes(t, r, knownOf(2, 1, s))
		stands(t, r, 1, s)
	}
}

func TestTwoThatToldAnotherThing(t *testing.T) {
	idle := used()
	idle.Idle[0]++
	more := used()
	more.Used[0] = 3
	both := used()
	both.Set = 3
	for id := range api.Replicas {
		a, b := others(id)
		for _, other := range []frame.Frame{knownOf(b, 5, used()), knownOf(b, 3, used()), knownOf(b, 4, idle), knownOf(b, 4, more), knownOf(b, 4, both), knownOf(b, 4, set(1)), knownOf(b, 4, api.State{})} {
			r := made(t, id)
			takes(t, r, knownOf(a, 4, used()))
			takes(t, r, other)
			stands(t, r, 0, api.State{})
			// Each of them is what that one told.
			r2 := made(t, id)
			takes(t, r2, knownOf(a, 4, used()))
			takes(t, r2, other)
			takes(t, r, knownOf(b, 4, used()))
			stands(t, r, 4, used())
			takes(t, r2, knownOf(a, other.Cycle, other.State))
			stands(t, r2, other.Cycle, other.State)
		}
	}
}

func TestOneThatToldTwice(t *testing.T) {
	for id := range api.Replicas {
		a, b := others(id)
		for _, from := range []int{a, b} {
			r := made(t, id)
			for range 3 {
				takes(t, r, knownOf(from, 4, set(1)))
				stands(t, r, 0, api.State{})
			}
		}
	}
}

func TestAKnownInThePlaceOfOneAhead(t *testing.T) {
	for id := range api.Replicas {
		a, b := others(id)
		r := made(t, id)
		takes(t, r, knownOf(a, 4, set(1)))
		takes(t, r, knownOf(a, 3, set(2)))
		takes(t, r, knownOf(b, 4, set(1)))
		stands(t, r, 0, api.State{})
		takes(t, r, knownOf(b, 3, set(2)))
		stands(t, r, 3, set(2))
	}
}

func TestAVoteIsNothing(t *testing.T) {
	for id := range api.Replicas {
		for from := range 4 {
			for cycle := range 4 {
				unmoved(t, id, voteOf(from, cycle, in(9, 5), 1), inCycle(id, 2)...)
			}
		}
	}
}

// gone are the ways to go to a cycle, from 0.
func gone(id int) map[string][]call {
	a, b := others(id)
	return map[string][]call{
		"by a Done":    {take(doneOf(0, in(15, 1)))},
		"by two Known": {take(knownOf(a, 1, set(1))), take(knownOf(b, 1, set(1)))},
	}
}

func TestBehindGoingThereAreNoSamples(t *testing.T) {
	for id := range api.Replicas {
		a, b := others(id)
		for what, calls := range gone(id) {
			r := made(t, id)
			tape(r, see(in(15, 7)), tick, take(sampleOf(a, 0, in(15, 7))), take(sampleOf(b, 0, in(15, 7))))
			fuses(t, what, r, in(15, 7))
			tape(r, calls...)
			stands(t, r, 1, set(1))
			fuses(t, what, r, in(0, 0))
			ticks(t, r, 1)
			fuses(t, what, r, in(0, 0))
			ticks(t, r, 1)
			says(t, r, askOf(id, 1))
		}
	}
}

func TestBehindGoingNoTicksWentBy(t *testing.T) {
	for id := range api.Replicas {
		a, _ := others(id)
		for what, calls := range gone(id) {
			for before := range 6 {
				r := made(t, id)
				r.See(in(15, 7))
				for range before {
					r.Tick()
				}
				tape(r, calls...)
				ticks(t, r, 1)
				takes(t, r, sampleOf(a, 1, in(15, 1)))
				ticks(t, r, 1)
				says(t, r, voteOf(id, 1, in(15, 1), 1))
				// That one came at the first tick of this cycle.
				fuses(t, what, r, in(15, 1))
				says(t, r, askOf(id, 1))
			}
		}
	}
}

func TestBehindGoingNobodyToldAnything(t *testing.T) {
	for id := range api.Replicas {
		a, b := others(id)
		for _, told := range []int{a, b} {
			other := a + b - told
			r := made(t, id)
			takes(t, r, knownOf(told, 5, set(2)))
			takes(t, r, doneOf(0, in(15, 1)))
			takes(t, r, knownOf(other, 5, set(2)))
			stands(t, r, 1, set(1))
			takes(t, r, knownOf(told, 5, set(2)))
			stands(t, r, 5, set(2))
			// What let it go there counts no more: of a cycle above, too, each has to tell it anew.
			takes(t, r, knownOf(other, 6, set(2)))
			stands(t, r, 5, set(2))
		}
	}
}

func TestALaterCycleIsAsTheFirstOne(t *testing.T) {
	// Behind a going a replica is as one that went there straight away.
	for id := range api.Replicas {
		a, b := others(id)
		for what, calls := range gone(id) {
			for _, probe := range probes(id, 1) {
				straight, round := made(t, id), made(t, id)
				tape(straight, see(in(15, 7)))
				tape(round, see(in(15, 7)), tick, take(sampleOf(a, 0, in(9, 5))), tick, take(sampleOf(b, 0, in(7, 5))), tick, tick, take(knownOf(a, 2, set(2))), take(knownOf(b, 3, set(1))), take(askOf(a, 3)))
				tape(straight, calls...)
				tape(round, calls...)
				if got, want := tape(round, probe...), tape(straight, probe...); !slices.Equal(got, want) {
					t.Fatalf("%s: %v, not %v", what, got, want)
				}
			}
		}
	}
}

func TestWhatIsToldIsTheCallers(t *testing.T) {
	for _, f := range []frame.Frame{askOf(1, 0), doneOf(9, in(0, 0))} {
		r := made(t, 0)
		first := r.Take(f)
		want := slices.Clone(first)
		for i := range first[:cap(first)] {
			first[:cap(first)][i] = knownOf(9, 9, used())
		}
		if again := r.Take(f); !slices.Equal(again, want) {
			t.Errorf("Take of %+v tells %+v, not %+v", f, again, want)
		}
		stands(t, r, 0, api.State{})
	}
}

func TestAStateIsTheCallers(t *testing.T) {
	r := made(t, 0)
	takes(t, r, doneOf(0, in(15, 1)))
	s := r.State()
	s.Set, s.Used[0], s.Idle[0] = 9, 9, 9
	stands(t, r, 1, set(1))
}

func TestFramesThatMayNotBeEnd(t *testing.T) {
	odd := []int{math.MinInt, -64, -3, -1, 0, 1, 2, 3, 4, 5, 6, 64, 1 << 32, math.MaxInt}
	for id := range api.Replicas {
		r := made(t, id)
		for _, kind := range odd {
			for _, from := range odd {
				for _, cycle := range odd {
					f := frame.Frame{Kind: kind, From: from, Cycle: cycle, In: in(from, cycle), Out: kind}
					r.Take(f)
					f.State.Set = from
					f.State.Idle[7] = kind
					r.Take(f)
					r.Tick()
				}
			}
		}
	}
}

func TestFramesByNobodyAreNothing(t *testing.T) {
	for _, from := range []int{math.MinInt, -64, -1, 4, 64, 1 << 32, math.MaxInt} {
		for _, f := range []frame.Frame{sampleOf(from, 0, in(9, 5)), askOf(from, 0), knownOf(from, 4, set(1))} {
			r := made(t, 0)
			takes(t, r, f)
			if seen(r) != seen(made(t, 0)) {
				t.Errorf("Take of %+v: it became %+v", f, seen(r))
			}
		}
	}
}

func TestPatienceIsOfEachCycle(t *testing.T) {
	r := made(t, 0)
	r.See(in(15, 1))
	for cycle := range 5 {
		ticks(t, r, replica.Patience-1)
		takes(t, r, sampleOf(1, cycle, in(15, 1)))
		says(t, r, voteOf(0, cycle, in(15, 1), 1))
		takes(t, r, doneOf(cycle, in(15, 1)))
	}
}
