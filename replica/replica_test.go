package replica_test

import (
	"errors"
	"math"
	"slices"
	"testing"

	"triumvir/api"
	"triumvir/frame"
	"triumvir/replica"
)

func TestPatience(t *testing.T) {
	if replica.Patience != 3 {
		t.Errorf("Patience is %d", replica.Patience)
	}
}

func TestNewOfEachID(t *testing.T) {
	for _, id := range []int{math.MinInt, -64, -3, -2, -1, 0, 1, 2, 3, 4, 64, 1 << 32, 1<<32 + 1, math.MaxInt} {
		r, err := replica.New(id, line())
		if id >= 0 && id <= 2 {
			if r == nil || err != nil {
				t.Errorf("New of %d: %v, %v", id, r, err)
			}
			continue
		}
		var at *api.At
		if r != nil || api.Tell(err) != api.ErrRange || errors.As(err, &at) {
			t.Errorf("New of %d: %v, %v", id, r, err)
		}
	}
}

func TestALayoutsErrorsComeFirst(t *testing.T) {
	wrong := []struct {
		l     api.Layout
		err   api.Errno
		place int
	}{
		{api.Layout{}, api.ErrRange, -1},
		{api.Layout{Sections: 13, Routes: []int{3}}, api.ErrRange, -1},
		{api.Layout{Sections: 4}, api.ErrRange, -1},
		{api.Layout{Sections: 4, Routes: []int{3}, Delay: 21}, api.ErrRange, -1},
		{api.Layout{Sections: 4, Routes: []int{3}, Delay: -1}, api.ErrRange, -1},
		{api.Layout{Sections: 4, Routes: []int{3, 0}}, api.ErrArg, 1},
		{api.Layout{Sections: 4, Routes: []int{3, 6, 16}}, api.ErrArg, 2},
		{api.Layout{Sections: 4, Routes: []int{3, 6, 3}}, api.ErrTwice, 2},
	}
	for _, w := range wrong {
		for _, id := range []int{-1, 0, 1, 2, 3} {
			r, err := replica.New(id, w.l)
			place := -1
			var at *api.At
			if errors.As(err, &at) {
				place = at.Place
			}
			if r != nil || api.Tell(err) != w.err || place != w.place {
				t.Errorf("New of %d, %+v: %v, %v at %d", id, w.l, r, err, place)
			}
		}
	}
}

func TestNewNeitherKeepsNorWritesItsList(t *testing.T) {
	all := []int{3, 12, 6, 77, 78}
	l := api.Layout{Sections: 4, Routes: all[:3], Delay: 2}
	r, err := replica.New(0, l)
	if err != nil {
		t.Fatal(err)
	}
	calls := []call{see(in(-1, -1)), tick, take(sampleOf(1, 0, in(15, 7))), take(sampleOf(2, 0, in(15, 6))), tick, take(doneOf(0, in(15, 5))), take(knownOf(1, 3, set(3))), take(knownOf(2, 3, set(3))), tick}
	want := tape(made(t, 0), calls...)
	all[0], all[1], all[2] = 0, 15, 15
	if got := tape(r, calls...); !slices.Equal(got, want) {
		t.Errorf("%v, not %v", got, want)
	}
	if !slices.Equal(all, []int{0, 15, 15, 77, 78}) {
		t.Errorf("the list became %v", all)
	}
}

func TestANewReplica(t *testing.T) {
	for id := range api.Replicas {
		r := made(t, id)
		if got, want := seen(r), (view{asks: askOf(id, 0)}); got != want {
			t.Errorf("a new one: %+v, not %+v", got, want)
		}
		// It sees nothing, and has no samples, not even of itself.
		sample, vote, ok := r.Tick()
		if sample != sampleOf(id, 0, in(0, 0)) || vote != (frame.Frame{}) || ok {
			t.Errorf("its first tick: %+v, %+v, %v", sample, vote, ok)
		}
	}
}

func TestANewReplicaKnowsOfNoCycleAhead(t *testing.T) {
	r := made(t, 0)
	takes(t, r, doneOf(0, in(15, 1)))
	if r.Cycle() != 1 {
		t.Errorf("it is in cycle %d", r.Cycle())
	}
}

func TestTwoReplicasShareNothing(t *testing.T) {
	r, other := made(t, 0), made(t, 0)
	tape(r, see(in(15, 7)), tick, take(sampleOf(1, 0, in(15, 7))), take(doneOf(0, in(15, 5))), take(knownOf(1, 3, set(1))), take(doneOf(9, in(0, 0))))
	calls := []call{tick, take(sampleOf(2, 0, in(15, 7))), tick, take(knownOf(2, 3, set(1))), take(doneOf(0, in(15, 5)))}
	if got, want := tape(other, calls...), tape(made(t, 0), calls...); !slices.Equal(got, want) {
		t.Errorf("%v, not %v", got, want)
	}
}

func TestFusedOfOneSample(t *testing.T) {
	for id := range api.Replicas {
		r := made(t, id)
		r.See(in(15, 7))
		fuses(t, "none", r, in(0, 0))
		r.Tick()
		fuses(t, "its own", r, in(0, 0))
		a, b := others(id)
		for _, from := range []int{a, b} {
			r = made(t, id)
			r.Take(sampleOf(from, 0, in(15, 7)))
			fuses(t, "another one's", r, in(0, 0))
		}
	}
}

func TestFusedOfTwoSamples(t *testing.T) {
	for id := range api.Replicas {
		a, b := others(id)
		for x := range 8 {
			for y := range 8 {
				for _, from := range []int{a, b} {
					r := made(t, id)
					r.See(in(x, 7-y))
					r.Tick()
					r.Take(sampleOf(from, 0, in(y, x)))
					fuses(t, "its own and another one's", r, in(x&y, (7-y)&x))
				}
				r := made(t, id)
				r.Take(sampleOf(a, 0, in(x, 7-y)))
				r.Take(sampleOf(b, 0, in(y, x)))
				fuses(t, "two others'", r, in(x&y, (7-y)&x))
			}
		}
	}
}

func TestFusedOfThreeSamples(t *testing.T) {
	// Bit i of these is each way in which three may have a bit, once.
	x, y, z := 0b11110000, 0b11001100, 0b10101010
	two := 0b11101000
	l := api.Layout{Sections: 8, Routes: []int{1, 2, 4, 8, 16, 32, 64, 128}}
	for id := range api.Replicas {
		a, b := others(id)
		for _, p := range [][3]int{{x, y, z}, {x, z, y}, {y, x, z}, {y, z, x}, {z, x, y}, {z, y, x}} {
			r, err := replica.New(id, l)
			if err != nil {
				t.Fatal(err)
			}
			r.See(in(p[0], p[1]))
			r.Tick()
			r.Take(sampleOf(a, 0, in(p[1], p[2])))
			r.Take(sampleOf(b, 0, in(p[2], p[0])))
			fuses(t, "three", r, in(two, two))
		}
	}
}

func TestTicksSampleIsWhatItSeesFitted(t *testing.T) {
	lines := []struct {
		l   api.Layout
		fit api.Input
	}{
		{line(), in(15, 7)},
		{api.Layout{Sections: 1, Routes: []int{1}}, in(1, 1)},
		{api.Layout{Sections: 12, Routes: []int{1, 2, 3, 4, 5, 6, 7, 8}}, in(4095, 255)},
	}
	for id := range api.Replicas {
		for _, c := range lines {
			for _, x := range []api.Input{in(-1, -1), in(0, 0), in(5, 2), in(1<<12, 1<<8), in(math.MaxInt, math.MinInt), in(4096+3, 256+1)} {
				r, err := replica.New(id, c.l)
				if err != nil {
					t.Fatal(err)
				}
				r.See(x)
				want := sampleOf(id, 0, in(x.Clear&c.fit.Clear, x.Wanted&c.fit.Wanted))
				if sample, _, _ := r.Tick(); sample != want {
					t.Errorf("%+v is told as %+v, not %+v", x, sample, want)
				}
				// Its own sample is fitted, too.
				a, _ := others(id)
				r.Take(sampleOf(a, 0, in(api.MaxNumber-1, api.MaxNumber-1)))
				fuses(t, "two", r, want.In)
			}
		}
	}
}

func TestSeeLastsUntilTheNextOne(t *testing.T) {
	r := made(t, 1)
	r.Take(sampleOf(0, 0, in(15, 7)))
	r.See(in(1, 1))
	r.See(in(9, 5))
	fuses(t, "ahead of its tick", r, in(0, 0))
	r.Tick()
	fuses(t, "behind its tick", r, in(9, 5))
	r.See(in(2, 2))
	fuses(t, "its sample is still the old one", r, in(9, 5))
	r.Tick()
	fuses(t, "behind the next one", r, in(2, 2))
	// It sees that in another cycle, too.
	r.Take(doneOf(0, in(0, 0)))
	fuses(t, "in a new cycle", r, in(0, 0))
	if sample, _, _ := r.Tick(); sample != sampleOf(1, 1, in(2, 2)) {
		t.Errorf("its sample is %+v", sample)
	}
	r.Take(knownOf(0, 7, set(1)))
	r.Take(knownOf(2, 7, set(1)))
	if sample, _, _ := r.Tick(); sample != sampleOf(1, 7, in(2, 2)) {
		t.Errorf("its sample is %+v", sample)
	}
}

func TestTicksSampleIsToldBesideAVoteToo(t *testing.T) {
	r := made(t, 2)
	r.See(in(15, 5))
	r.Take(sampleOf(0, 0, in(15, 5)))
	r.Take(sampleOf(1, 0, in(15, 5)))
	sample, vote, ok := r.Tick()
	if sample != sampleOf(2, 0, in(15, 5)) || vote != voteOf(2, 0, in(15, 5), 1) || !ok {
		t.Errorf("%+v, %+v, %v", sample, vote, ok)
	}
	r = made(t, 2)
	r.See(in(15, 5))
	ticks(t, r, 2)
	sample, vote, ok = r.Tick()
	if sample != sampleOf(2, 0, in(15, 5)) || vote != askOf(2, 0) || !ok {
		t.Errorf("%+v, %+v, %v", sample, vote, ok)
	}
}

func TestASampleLastsForLessThanPatienceTicks(t *testing.T) {
	for came := range 8 {
		r := made(t, 0)
		r.See(in(15, 7))
		for range came {
			r.Tick()
		}
		r.Take(sampleOf(1, 0, in(9, 5)))
		r.Tick()
		fuses(t, "one tick behind it", r, in(9, 5))
		r.Tick()
		fuses(t, "two ticks behind it", r, in(9, 5))
		r.Tick()
		fuses(t, "Patience ticks behind it", r, in(0, 0))
		if _, vote, ok := r.Tick(); !ok || vote != askOf(0, 0) {
			t.Errorf("it says %+v, %v", vote, ok)
		}
	}
}

func TestASampleIsThereUntilATick(t *testing.T) {
	r := made(t, 0)
	r.Take(sampleOf(1, 0, in(9, 5)))
	r.Take(sampleOf(2, 0, in(9, 5)))
	r.Tick()
	r.Tick()
	for range 10 {
		r.Asks()
		r.Take(askOf(1, 0))
		fuses(t, "no tick went by", r, in(9, 5))
	}
	r.Tick()
	fuses(t, "a tick went by", r, in(0, 0))
}

func TestASampleInThePlaceOfOneLastsFromThenOn(t *testing.T) {
	r := made(t, 0)
	r.See(in(15, 7))
	r.Take(sampleOf(1, 0, in(9, 5)))
	r.Tick()
	r.Take(sampleOf(1, 0, in(9, 5)))
	r.Tick()
	r.Tick()
	fuses(t, "two ticks behind the second one", r, in(9, 5))
	r.Tick()
	fuses(t, "Patience ticks behind the second one", r, in(0, 0))
}

func TestTheTwoOthersSamplesLastEachByItself(t *testing.T) {
	r := made(t, 0)
	r.See(in(15, 7))
	r.Take(sampleOf(1, 0, in(15, 1)))
	r.Tick()
	r.Take(sampleOf(2, 0, in(15, 2)))
	r.Tick()
	fuses(t, "three", r, in(15, 3))
	says(t, r, voteOf(0, 0, in(15, 2), 2))
	fuses(t, "the later one, and its own", r, in(15, 2))
	says(t, r, askOf(0, 0))
}

func TestVoteWithAllThree(t *testing.T) {
	for id := range api.Replicas {
		a, b := others(id)
		for before := range 2 * replica.Patience {
			r := made(t, id)
			r.See(in(15, 7))
			for range before {
				r.Tick()
			}
			r.Take(sampleOf(a, 0, in(15, 5)))
			r.Take(sampleOf(b, 0, in(15, 4)))
			says(t, r, voteOf(id, 0, in(15, 5), 1))
		}
	}
}

func TestVoteWithTwo(t *testing.T) {
	for id := range api.Replicas {
		a, b := others(id)
		for _, from := range []int{a, b} {
			r := made(t, id)
			r.See(in(15, 7))
			ticks(t, r, 1)
			r.Take(sampleOf(from, 0, in(15, 6)))
			ticks(t, r, 1)
			says(t, r, voteOf(id, 0, in(15, 6), 2))
			says(t, r, askOf(id, 0))
			r.Take(sampleOf(from, 0, in(15, 4)))
			says(t, r, voteOf(id, 0, in(15, 4), 4))
			says(t, r, voteOf(id, 0, in(15, 4), 4))
			says(t, r, askOf(id, 0))
		}
	}
}

func TestVoteWithTwoAheadOfTheFirstTickIsTooEarly(t *testing.T) {
	r := made(t, 0)
	r.Take(sampleOf(1, 0, in(15, 6)))
	ticks(t, r, 2)
	says(t, r, askOf(0, 0))
}

func TestVoteWithTwoThatSawNoughts(t *testing.T) {
	// That is two samples, though no bit is in them.
	r := made(t, 0)
	ticks(t, r, 1)
	r.Take(sampleOf(2, 0, in(0, 0)))
	ticks(t, r, 1)
	says(t, r, voteOf(0, 0, in(0, 0), 0))
	r = made(t, 0)
	r.Take(sampleOf(1, 0, in(0, 0)))
	r.Take(sampleOf(2, 0, in(0, 0)))
	says(t, r, voteOf(0, 0, in(0, 0), 0))
}

func TestAloneItAsks(t *testing.T) {
	for id := range api.Replicas {
		r := made(t, id)
		r.See(in(15, 7))
		ticks(t, r, replica.Patience-1)
		for range 5 {
			says(t, r, askOf(id, 0))
		}
		r.Take(doneOf(0, in(15, 1)))
		ticks(t, r, replica.Patience-1)
		says(t, r, askOf(id, 1))
	}
}

func TestAVotesOutIsWhatItsStateShows(t *testing.T) {
	r := made(t, 1)
	var s api.State
	// Route 0 is set; its train comes and goes; then route 2 may be set, with a look at each.
	for cycle, x := range []api.Input{in(15, 1), in(15, 5), in(14, 5), in(13, 5), in(15, 4), in(15, 4), in(9, 6), in(15, 6), in(15, 2)} {
		r.See(x)
		r.Take(sampleOf(0, cycle, x))
		r.Take(sampleOf(2, cycle, in(15, 7)))
		next, out := step(t, s, x)
		for range 2 {
			says(t, r, voteOf(1, cycle, x, out))
			stands(t, r, cycle, s)
		}
		takes(t, r, doneOf(cycle, x))
		s = next
		stands(t, r, cycle+1, s)
	}
	if s == (api.State{}) {
		t.Error("nothing is set: that proves little")
	}
}

func TestExampleSix(t *testing.T) {
	r := made(t, 0)
	r.See(in(15, 5))
	r.Take(sampleOf(1, 0, in(15, 5)))
	r.Take(sampleOf(2, 0, in(15, 5)))
	says(t, r, voteOf(0, 0, in(15, 5), 1))
}

func TestTickAndAsksChangeNeitherCycleNorState(t *testing.T) {
	r := made(t, 2)
	r.See(in(15, 2))
	r.Take(doneOf(0, in(15, 5)))
	s, _ := step(t, api.State{}, in(15, 5))
	for k := range 20 {
		r.Tick()
		stands(t, r, 1, s)
		if got := r.Asks(); got != askOf(2, 1) {
			t.Errorf("it asks %+v", got)
		}
		stands(t, r, 1, s)
		if k%4 == 0 {
			r.Take(sampleOf(k/4%2, 1, in(15, 6)))
		}
	}
}

func TestLookingChangesNothing(t *testing.T) {
	looks := func(r *replica.Replica) {
		for range 3 {
			seen(r)
		}
	}
	calls := []call{see(in(15, 7)), tick, take(sampleOf(1, 0, in(7, 5))), tick, take(doneOf(2, in(1, 1))), tick, take(knownOf(2, 1, set(1))), tick, take(knownOf(1, 1, set(1))), take(doneOf(1, in(15, 1))), tick}
	plain, watched := made(t, 0), made(t, 0)
	for _, c := range calls {
		looks(watched)
		if got, want := c(watched), c(plain); got != want {
			t.Errorf("%s, not %s", got, want)
		}
	}
	if seen(plain) != seen(watched) {
		t.Errorf("%+v, not %+v", seen(watched), seen(plain))
	}
}
