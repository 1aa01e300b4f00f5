package system_test

import (
	"fmt"
	"testing"

	"triumvir/api"
	"triumvir/system"
)

// allComes lets what is under way come, the first one first, with all that is sent by that.
func allComes(s asked) {
	for s.Many() > 0 {
		s.Deliver(0)
	}
}

// calmly is a round of Calm, call by call.
func calmly(s asked) {
	allComes(s)
	for range 2 {
		for k := range 3 {
			s.Tick(k)
		}
		allComes(s)
	}
	s.Tick(api.Voter)
}

func TestExampleSix(t *testing.T) {
	s := made(t, 9)
	for k := range 3 {
		fine(t, s.See(k, in(15, 5)))
	}
	s.Calm(1)
	traced(t, "all see the same", s, com(15, 5, 1))
	if s.Shown() != 1 || s.Latched() || s.Out() != 0 || s.Many() != 0 || s.Lost() != 0 {
		t.Errorf("%+v", seen(s))
	}
	for k := range 3 {
		stands(t, "all know it", s, k, 1, states(t, line(), s.Trace())[1])
	}
	s.Calm(2)
	traced(t, "a cycle a round", s, com(15, 5, 1), com(15, 5, 1), com(15, 5, 1))
}

func TestExampleTwoByRounds(t *testing.T) {
	l := api.Layout{Sections: 2, Routes: []int{3}}
	s, err := system.New(l, 3)
	fine(t, err)
	for i, clear := range []int{3, 2, 1, 3} {
		for k := range 3 {
			fine(t, s.See(k, in(clear, 1)))
		}
		s.Calm(1)
		if want := []int{1, 0, 0, 1}[i]; s.Shown() != want || len(s.Trace()) != i+1 {
			t.Errorf("round %d: %d is shown, not %d, behind %d cycles", i, s.Shown(), want, len(s.Trace()))
		}
	}
}

func TestNoRounds(t *testing.T) {
	for _, rounds := range []int{0, -1, -2, -1 << 63} {
		s := busy(t)
		s.Calm(rounds)
		alike(t, fmt.Sprint("Calm of ", rounds), s, busy(t))
	}
}

func TestARoundIsAVotersTick(t *testing.T) {
	// All three are out of step with the voter: nothing can be committed.
	begin := func() *system.System {
		s := made(t, 5)
		for k := range 3 {
			a, b := others(k)
			says(t, s, a, k, knownOf(a, 7, api.State{}))
			says(t, s, b, k, knownOf(b, 7, api.State{}))
		}
		return s
	}
	for rounds := range 8 {
		s := begin()
		s.Calm(rounds)
		if s.Latched() != (rounds >= 5) {
			t.Errorf("behind %d rounds: latched is %v", rounds, s.Latched())
		}
	}
}

func TestWhatIsUnderWayComesAheadOfTheTicks(t *testing.T) {
	// A vote is under way that another one says, too: it is committed ahead of the first tick, so in the same round another cycle is.
	s := made(t, 9)
	for k := range 3 {
		fine(t, s.See(k, in(15, 7)))
	}
	says(t, s, 0, api.Voter, voteOf(0, 0, com(15, 5, 1)))
	says(t, s, 1, api.Voter, voteOf(1, 0, com(15, 5, 1)))
	s.Calm(1)
	traced(t, "a round", s, com(15, 5, 1), com(15, 7, 3))
	for k := range 3 {
		stands(t, "a round", s, k, 2, states(t, line(), s.Trace())[2])
	}
	holds(t, "a round", s, 0, 0)
}

func TestCalmIsTheseCalls(t *testing.T) {
	for seed := range 60 {
		for _, rounds := range []int{0, 1, 2, 3, 7} {
			s, twin := stirred(t, die(seed)), stirred(t, die(seed))
			s.Calm(rounds)
			for range rounds {
				calmly(twin)
			}
			alike(t, fmt.Sprintf("%d rounds", rounds), s, twin)
		}
	}
}

// stirred is a system behind some drawn calls.
func stirred(t *testing.T, d die) *system.System {
	s := made(t, 2+d.upTo(19))
	h := hand{die: &d, line: line(), odd: d.upTo(3)}
	for range 10 + d.upTo(60) {
		h.call(s.Many(), len(s.Trace()))(s)
	}
	return s
}

// A voter of 1000 cycles is latched, and tells one that fell all of them.
func TestAllCyclesThatThereMayBe(t *testing.T) {
	s := made(t, 2)
	for k := range 3 {
		fine(t, s.See(k, in(15, 5)))
	}
	s.Calm(api.MaxCycles - 1)
	if s.Latched() || s.Shown() != 1 || len(s.Trace()) != api.MaxCycles-1 {
		t.Fatalf("latched %v, %d shown, behind %d cycles", s.Latched(), s.Shown(), len(s.Trace()))
	}
	s.Calm(3)
	if !s.Latched() || s.Shown() != 0 || len(s.Trace()) != api.MaxCycles || s.Lost() != 0 {
		t.Fatalf("latched %v, %d shown, behind %d cycles", s.Latched(), s.Shown(), len(s.Trace()))
	}
	all := states(t, line(), s.Trace())
	for k := range 3 {
		fine(t, s.Crash(k))
		s.Calm(2)
		stands(t, "one that fell", s, k, api.MaxCycles, all[api.MaxCycles])
	}
	if len(s.Trace()) != api.MaxCycles || s.Many() != 0 {
		t.Errorf("%d cycles, %d under way", len(s.Trace()), s.Many())
	}
}

// All room is taken by questions of one that fell.
func TestAFlood(t *testing.T) {
	for _, cycles := range []int{2, 50, 300} {
		s := made(t, 2)
		for k := range 3 {
			fine(t, s.See(k, in(15, 5)))
		}
		s.Calm(cycles)
		fine(t, s.Crash(1))
		for range api.MaxNet + 5 {
			says(t, s, 1, api.Voter, askOf(1, 0))
		}
		holds(t, "a flood", s, api.MaxNet, 5)
		allComes(s)
		// Each question is told of cycle 0; for what was committed last there was no room.
		holds(t, "behind a flood", s, 0, 5+api.MaxNet)
		stands(t, "behind a flood", s, 1, 1, states(t, line(), s.Trace())[1])
		s.Calm(2)
		stands(t, "behind two rounds", s, 1, len(s.Trace()), states(t, line(), s.Trace())[len(s.Trace())])
	}
}
