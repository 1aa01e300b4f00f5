package voter_test

import (
	"slices"
	"testing"

	"triumvir/api"
	"triumvir/frame"
	"triumvir/voter"
)

// made is a voter with a window.
func made(t *testing.T, window int) *voter.Voter {
	t.Helper()
	v, err := voter.New(window)
	if err != nil || v == nil {
		t.Fatalf("New of %d: %v, %v", window, v, err)
	}
	return v
}

// com is a commit, written short.
func com(clear, wanted, out int) api.Commit {
	return api.Commit{In: api.Input{Clear: clear, Wanted: wanted}, Out: out}
}

func voteOf(from, cycle int, c api.Commit) frame.Frame {
	return frame.Frame{Kind: frame.Vote, From: from, Cycle: cycle, In: c.In, Out: c.Out}
}

func askOf(from, cycle int) frame.Frame {
	return frame.Frame{Kind: frame.Ask, From: from, Cycle: cycle}
}

func doneOf(cycle int, c api.Commit) frame.Frame {
	return frame.Frame{Kind: frame.Done, From: 3, Cycle: cycle, In: c.In, Out: c.Out}
}

// view is all that a voter shows of itself.
type view struct {
	trace   []api.Commit
	shown   int
	latched bool
	out     int
}

func seen(v *voter.Voter) view {
	return view{trace: v.Trace(), shown: v.Shown(), latched: v.Latched(), out: v.Out()}
}

func same(a, b view) bool {
	return slices.Equal(a.trace, b.trace) && a.shown == b.shown && a.latched == b.latched && a.out == b.out
}

// looks fails unless a voter shows just that.
func looks(t *testing.T, what string, v *voter.Voter, want view) {
	t.Helper()
	if got := seen(v); !same(got, want) {
		t.Errorf("%s: %+v, not %+v", what, got, want)
	}
}

// quiet fails unless Take tells nothing to nobody, and leaves all as it is.
func quiet(t *testing.T, v *voter.Voter, f frame.Frame) {
	t.Helper()
	was := seen(v)
	if l, all := v.Take(f); len(l) != 0 || all {
		t.Errorf("Take of %+v tells %+v, to all: %v", f, l, all)
	}
	if !same(was, seen(v)) {
		t.Errorf("Take of %+v: %+v became %+v", f, was, seen(v))
	}
}

// tells fails unless Take tells just that to one, and leaves all as it is.
func tells(t *testing.T, v *voter.Voter, f frame.Frame, want ...frame.Frame) {
	t.Helper()
	was := seen(v)
	if l, all := v.Take(f); !slices.Equal(l, want) || all {
		t.Errorf("Take of %+v tells %+v, to all: %v; not %+v", f, l, all, want)
	}
	if !same(was, seen(v)) {
		t.Errorf("Take of %+v: %+v became %+v", f, was, seen(v))
	}
}

// commits fails unless Take commits the frame's In and Out, and tells that to all.
func commits(t *testing.T, v *voter.Voter, f frame.Frame) {
	t.Helper()
	was := v.Trace()
	c := api.Commit{In: f.In, Out: f.Out}
	l, all := v.Take(f)
	if !slices.Equal(l, []frame.Frame{doneOf(len(was), c)}) || !all {
		t.Errorf("Take of %+v tells %+v, to all: %v", f, l, all)
	}
	if got := v.Trace(); !slices.Equal(got, append(was, c)) {
		t.Errorf("Take of %+v: the trace is %+v", f, got)
	}
}

// twoCommit lets replicas 0 and 1 commit, one cycle for each of these.
func twoCommit(t *testing.T, v *voter.Voter, l ...api.Commit) {
	t.Helper()
	for _, c := range l {
		cycle := len(v.Trace())
		quiet(t, v, voteOf(0, cycle, c))
		commits(t, v, voteOf(1, cycle, c))
	}
}

// ticks lets so many ticks go by.
func ticks(v *voter.Voter, n int) {
	for range n {
		v.Tick()
	}
}

// ticksLeft fails unless so many ticks are left. (They are used up then.)
func ticksLeft(t *testing.T, what string, v *voter.Voter, n int) {
	t.Helper()
	ticks(v, n-1)
	if v.Latched() {
		t.Errorf("%s: latched with %d ticks or fewer", what, n-1)
	}
	v.Tick()
	if !v.Latched() {
		t.Errorf("%s: not latched with %d ticks", what, n)
	}
}

// die: numbers that look drawn, the same each time.
type die uint64

func (d *die) upTo(n int) int {
	*d = *d*6364136223846793005 + 1442695040888963407
	return int(uint64(*d>>33) % uint64(n))
}
