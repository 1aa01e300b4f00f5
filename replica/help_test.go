package replica_test

import (
	"fmt"
	"slices"
	"testing"

	"triumvir/api"
	"triumvir/core"
	"triumvir/frame"
	"triumvir/replica"
)

// line is the document's: routes 0 and 1 meet route 2.
func line() api.Layout {
	return api.Layout{Sections: 4, Routes: []int{3, 12, 6}, Delay: 2}
}

// made is a replica of that line.
func made(t *testing.T, id int) *replica.Replica {
	t.Helper()
	r, err := replica.New(id, line())
	if err != nil || r == nil {
		t.Fatalf("New of %d: %v, %v", id, r, err)
	}
	return r
}

// others are the two other replicas.
func others(id int) (int, int) { return (id + 1) % 3, (id + 2) % 3 }

// step is the core's.
func step(t *testing.T, s api.State, in api.Input) (api.State, int) {
	t.Helper()
	c, err := core.New(line())
	if err != nil {
		t.Fatal(err)
	}
	return c.Step(s, in)
}

// in is an input, written short.
func in(clear, wanted int) api.Input { return api.Input{Clear: clear, Wanted: wanted} }

// set is a state in which routes are set, and nothing was used.
func set(routes int) api.State { return api.State{Set: routes} }

func sampleOf(from, cycle int, x api.Input) frame.Frame {
	return frame.Frame{Kind: frame.Sample, From: from, Cycle: cycle, In: x}
}

func voteOf(from, cycle int, x api.Input, out int) frame.Frame {
	return frame.Frame{Kind: frame.Vote, From: from, Cycle: cycle, In: x, Out: out}
}

func doneOf(cycle int, x api.Input) frame.Frame {
	return frame.Frame{Kind: frame.Done, From: 3, Cycle: cycle, In: x}
}

func askOf(from, cycle int) frame.Frame {
	return frame.Frame{Kind: frame.Ask, From: from, Cycle: cycle}
}

func knownOf(from, cycle int, s api.State) frame.Frame {
	return frame.Frame{Kind: frame.Known, From: from, Cycle: cycle, State: s}
}

// view is all that a replica shows of itself.
type view struct {
	cycle int
	state api.State
	fused api.Input
	asks  frame.Frame
}

func seen(r *replica.Replica) view {
	return view{cycle: r.Cycle(), state: r.State(), fused: r.Fused(), asks: r.Asks()}
}

// takes fails unless Take tells just that.
func takes(t *testing.T, r *replica.Replica, f frame.Frame, want ...frame.Frame) {
	t.Helper()
	if l := r.Take(f); !slices.Equal(l, want) {
		t.Errorf("Take of %+v tells %+v, not %+v", f, l, want)
	}
}

// stands fails unless a replica is in that cycle, of that state.
func stands(t *testing.T, r *replica.Replica, cycle int, s api.State) {
	t.Helper()
	if r.Cycle() != cycle || r.State() != s {
		t.Errorf("it is in cycle %d of %+v, not in %d of %+v", r.Cycle(), r.State(), cycle, s)
	}
}

// fuses fails unless that is fused.
func fuses(t *testing.T, what string, r *replica.Replica, want api.Input) {
	t.Helper()
	if got := r.Fused(); got != want {
		t.Errorf("%s: %+v is fused, not %+v", what, got, want)
	}
}

// ticks lets ticks go by, and fails if it votes, or asks.
func ticks(t *testing.T, r *replica.Replica, n int) {
	t.Helper()
	for range n {
		if _, vote, ok := r.Tick(); ok || vote != (frame.Frame{}) {
			t.Errorf("it says %+v, %v", vote, ok)
		}
	}
}

// says fails unless its tick says just that.
func says(t *testing.T, r *replica.Replica, want frame.Frame) {
	t.Helper()
	if _, vote, ok := r.Tick(); !ok || vote != want {
		t.Errorf("it says %+v, %v, not %+v", vote, ok, want)
	}
}

// call is one on a replica: what it answers.
type call func(r *replica.Replica) string

func tick(r *replica.Replica) string {
	sample, vote, ok := r.Tick()
	return fmt.Sprint(sample, vote, ok)
}

func see(x api.Input) call {
	return func(r *replica.Replica) string {
		r.See(x)
		return ""
	}
}

func take(f frame.Frame) call {
	return func(r *replica.Replica) string { return fmt.Sprint(r.Take(f)) }
}

// tape is what calls answer, and what a replica shows of itself behind each.
func tape(r *replica.Replica, calls ...call) []string {
	var l []string
	for _, c := range calls {
		l = append(l, c(r)+fmt.Sprint(seen(r)))
	}
	return l
}

// probes are calls that bring out what a replica does not show of itself: samples and ticks; what others told; ahead.
func probes(id, cycle int) [][]call {
	a, b := others(id)
	l := [][]call{
		{tick, tick, tick, tick, tick, tick},
		{take(sampleOf(a, cycle, in(5, 3))), tick, tick, tick, tick, tick},
		{take(sampleOf(b, cycle, in(6, 5))), tick, tick, tick, tick, tick},
	}
	var done []call
	for k := range 12 {
		done = append(done, take(doneOf(cycle+k, in(15, 1))))
	}
	l = append(l, done)
	for _, from := range []int{0, 1, 2} {
		for k := range 6 {
			for _, s := range []api.State{{}, set(1), set(2)} {
				l = append(l, []call{take(knownOf(from, cycle+k, s))})
			}
		}
	}
	return l
}

// unmoved fails unless a frame is nothing to a replica behind these calls: it tells nothing then, and all calls behind it answer as without it.
func unmoved(t *testing.T, id int, f frame.Frame, before ...call) {
	t.Helper()
	start := made(t, id)
	tape(start, before...)
	for _, probe := range probes(id, start.Cycle()) {
		with, without := made(t, id), made(t, id)
		tape(with, before...)
		tape(without, before...)
		takes(t, with, f)
		if seen(with) != seen(without) {
			t.Fatalf("Take of %+v: %+v became %+v", f, seen(without), seen(with))
		}
		if got, want := tape(with, probe...), tape(without, probe...); !slices.Equal(got, want) {
			t.Fatalf("behind a Take of %+v: %v, not %v", f, got, want)
		}
	}
}

// die: numbers that look drawn, the same each time.
type die uint64

func (d *die) upTo(n int) int {
	*d = *d*6364136223846793005 + 1442695040888963407
	return int(uint64(*d>>33) % uint64(n))
}
