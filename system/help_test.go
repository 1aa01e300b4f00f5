package system_test

import (
	"errors"
	"fmt"
	"reflect"
	"slices"
	"testing"

	"triumvir/api"
	"triumvir/core"
	"triumvir/frame"
	"triumvir/system"
)

// asked is what a system can be asked: a model of it is asked the same.
type asked interface {
	See(k int, in api.Input) error
	Tick(k int) error
	Asks(k int) error
	Deliver(i int) error
	Lose(i int) error
	Twice(i int) error
	Spoil(i, at int, what uint32) error
	Crash(k int) error
	Says(k, to int, b []byte) error
	Latch()
	Calm(rounds int)
	Trace() []api.Commit
	Shown() int
	Latched() bool
	Out() int
	Replica(k int) (int, api.State, error)
	Many() int
	Lost() int
}

// line is the document's: routes 0 and 1 meet route 2.
func line() api.Layout {
	return api.Layout{Sections: 4, Routes: []int{3, 12, 6}, Delay: 2}
}

// made is a system of that line.
func made(t *testing.T, window int) *system.System {
	t.Helper()
	s, err := system.New(line(), window)
	if err != nil || s == nil {
		t.Fatalf("New with a window of %d: %v, %v", window, s, err)
	}
	return s
}

// in is an input, written short.
func in(clear, wanted int) api.Input { return api.Input{Clear: clear, Wanted: wanted} }

// com is a commit, written short.
func com(clear, wanted, out int) api.Commit { return api.Commit{In: in(clear, wanted), Out: out} }

// others are the two other replicas, by their numbers.
func others(k int) (int, int) {
	a, b := (k+1)%3, (k+2)%3
	return min(a, b), max(a, b)
}

func sampleOf(from, cycle int, x api.Input) frame.Frame {
	return frame.Frame{Kind: frame.Sample, From: from, Cycle: cycle, In: x}
}

func voteOf(from, cycle int, c api.Commit) frame.Frame {
	return frame.Frame{Kind: frame.Vote, From: from, Cycle: cycle, In: c.In, Out: c.Out}
}

func doneOf(from, cycle int, c api.Commit) frame.Frame {
	return frame.Frame{Kind: frame.Done, From: from, Cycle: cycle, In: c.In, Out: c.Out}
}

func askOf(from, cycle int) frame.Frame {
	return frame.Frame{Kind: frame.Ask, From: from, Cycle: cycle}
}

func knownOf(from, cycle int, s api.State) frame.Frame {
	return frame.Frame{Kind: frame.Known, From: from, Cycle: cycle, State: s}
}

// written is a frame's bytes.
func written(f frame.Frame) []byte {
	b, err := frame.Encode(f)
	if err != nil {
		panic(fmt.Sprintf("%+v may not be", f))
	}
	return b
}

// How many bytes frames have.
const ask, sample, vote, done, known = 13, 19, 22, 22, 64

// states are what the core knows behind each of these, from none on.
func states(t *testing.T, l api.Layout, trace []api.Commit) []api.State {
	t.Helper()
	c, err := core.New(l)
	if err != nil {
		t.Fatal(err)
	}
	list := []api.State{{}}
	for i, x := range trace {
		next, _ := c.Step(list[i], x.In)
		list = append(list, next)
	}
	return list
}

// place is where a replica stands.
type place struct {
	cycle int
	state api.State
}

// view is all that a system shows of itself.
type view struct {
	trace            []api.Commit
	shown, out       int
	latched          bool
	many, lost       int
	zero, first, two place
}

func seen(s asked) view {
	v := view{trace: s.Trace(), shown: s.Shown(), out: s.Out(), latched: s.Latched(), many: s.Many(), lost: s.Lost()}
	if len(v.trace) == 0 {
		v.trace = nil
	}
	for k, p := range []*place{&v.zero, &v.first, &v.two} {
		p.cycle, p.state, _ = s.Replica(k)
	}
	return v
}

func same(a, b view) bool { return reflect.DeepEqual(a, b) }

// is fails unless it is that error, at no place.
func is(t *testing.T, what string, err error, want api.Errno) {
	t.Helper()
	var at *api.At
	if api.Tell(err) != want || errors.As(err, &at) {
		t.Errorf("%s: %v, not error %d", what, err, want)
	}
}

// fine fails unless there is no error.
func fine(t *testing.T, err error) {
	t.Helper()
	if err != nil {
		t.Fatalf("an error: %v", err)
	}
}

// refused fails unless a call answers that error, and changes nothing that is to be seen.
func refused(t *testing.T, what string, s *system.System, want api.Errno, call func() error) {
	t.Helper()
	was := seen(s)
	is(t, what, call(), want)
	if now := seen(s); !same(was, now) {
		t.Errorf("%s: %+v became %+v", what, was, now)
	}
}

// sizes are how many bytes each has that is under way. (A copy of it is spoilt, asked, and lost: there must be room for that.)
func sizes(t *testing.T, s *system.System) []int {
	t.Helper()
	l := []int{}
	for i := range s.Many() {
		copied := s.Many()
		fine(t, s.Twice(i))
		if s.Many() != copied+1 {
			t.Fatalf("there is no room for another one, or Twice sends none: %d, then %d", copied, s.Many())
		}
		s.Spoil(copied, 0, 1<<31)
		n := 0
		for api.Tell(s.Spoil(copied, 8*n, 1<<31)) == api.ErrTwice {
			n++
		}
		l = append(l, n)
		fine(t, s.Lose(copied))
	}
	return l
}

// underWay fails unless things of just so many bytes are under way.
func underWay(t *testing.T, what string, s *system.System, want ...int) {
	t.Helper()
	if got := sizes(t, s); !slices.Equal(got, want) {
		t.Fatalf("%s: %v bytes are under way, not %v", what, got, want)
	}
}

// stands fails unless a replica is in that cycle, of that state.
func stands(t *testing.T, what string, s *system.System, k, cycle int, want api.State) {
	t.Helper()
	if c, st, err := s.Replica(k); err != nil || c != cycle || st != want {
		t.Errorf("%s: replica %d is in cycle %d of %+v (%v), not in %d of %+v", what, k, c, st, err, cycle, want)
	}
}

// traced fails unless just that was committed.
func traced(t *testing.T, what string, s *system.System, want ...api.Commit) {
	t.Helper()
	if got := s.Trace(); !slices.Equal(got, want) {
		t.Errorf("%s: %+v was committed, not %+v", what, got, want)
	}
}

// loseBehind loses all but the first n.
func loseBehind(t *testing.T, s *system.System, n int) {
	t.Helper()
	for s.Many() > n {
		fine(t, s.Lose(n))
	}
}

// only loses all but the i-th.
func only(t *testing.T, s *system.System, i int) {
	t.Helper()
	loseBehind(t, s, i+1)
	for s.Many() > 1 {
		fine(t, s.Lose(0))
	}
}

// says lets a replica say a frame.
func says(t *testing.T, s asked, k, to int, f frame.Frame) {
	t.Helper()
	fine(t, s.Says(k, to, written(f)))
}

// deliver lets the first n come.
func deliver(t *testing.T, s asked, n int) {
	t.Helper()
	for range n {
		fine(t, s.Deliver(0))
	}
}

// tick lets a replica's ticks go by.
func tick(t *testing.T, s asked, k, n int) {
	t.Helper()
	for range n {
		fine(t, s.Tick(k))
	}
}

// commits lets replicas 0 and 1 say these to the voter, one by one, and lets what is told by that come to those alone that are told here. Nothing may be under way.
func commits(t *testing.T, s *system.System, to []int, l ...api.Commit) {
	t.Helper()
	for _, c := range l {
		cycle := len(s.Trace())
		says(t, s, 0, api.Voter, voteOf(0, cycle, c))
		says(t, s, 1, api.Voter, voteOf(1, cycle, c))
		deliver(t, s, 2)
		if len(s.Trace()) != cycle+1 || s.Many() != 3 {
			t.Fatalf("%+v is not committed, or not told to three: %d, %d", c, len(s.Trace()), s.Many())
		}
		for k := range 3 {
			if slices.Contains(to, k) {
				fine(t, s.Deliver(0))
			} else {
				fine(t, s.Lose(0))
			}
		}
		if s.Many() != 0 {
			t.Fatalf("%d more are told", s.Many())
		}
	}
}

// isVote fails unless the i-th is a vote for that, of that replica, in the voter's cycle, to the voter. (All else is lost.)
func isVote(t *testing.T, what string, s *system.System, i, of int, c api.Commit) {
	t.Helper()
	only(t, s, i)
	was := s.Trace()
	a, b := others(of)
	// If it were of b, b would not be out.
	says(t, s, a, api.Voter, voteOf(a, len(was), c))
	says(t, s, b, api.Voter, voteOf(b, len(was), api.Commit{In: c.In, Out: c.Out + 1}))
	fine(t, s.Deliver(1))
	fine(t, s.Deliver(1))
	traced(t, what, s, was...)
	fine(t, s.Deliver(0))
	traced(t, what, s, append(was, c)...)
	if s.Out() != 1<<b {
		t.Errorf("%s: out are %d, not replica %d", what, s.Out(), b)
	}
}

// isSample fails unless the i-th is a sample of that, in cycle 0, of that replica, to that one, who is new. (All else is lost.)
func isSample(t *testing.T, what string, s *system.System, i, of, to int, x api.Input) {
	t.Helper()
	only(t, s, i)
	fine(t, s.See(to, in(-1, -1)))
	tick(t, s, to, 1)
	loseBehind(t, s, 1)
	// If it were of the third one, this would take its place.
	third := 3 - of - to
	says(t, s, third, to, sampleOf(third, 0, in(0, 0)))
	deliver(t, s, 2)
	tick(t, s, to, 1)
	if s.Many() != 3 {
		t.Fatalf("%s: replica %d has not all samples then", what, to)
	}
	_, out := stepped(t, api.State{}, x)
	isVote(t, what, s, 2, to, api.Commit{In: x, Out: out})
}

// stepped is the core's Step.
func stepped(t *testing.T, s api.State, x api.Input) (api.State, int) {
	t.Helper()
	c, err := core.New(line())
	if err != nil {
		t.Fatal(err)
	}
	return c.Step(s, x)
}

// call is one on a system, or on a model of it: what it answers.
type call func(s asked) string

// tape is what calls answer, and what is to be seen behind each.
func tape(s asked, calls ...call) []string {
	var l []string
	for _, c := range calls {
		l = append(l, c(s)+fmt.Sprintf(" %+v", seen(s)))
	}
	return l
}

// does is a call that answers an error alone.
func does(c func(s asked) error) call {
	return func(s asked) string { return fmt.Sprint(api.Tell(c(s))) }
}

// probes are calls that bring out what a system does not show of itself.
func probes() []call {
	var l []call
	for k := range 4 {
		l = append(l, does(func(s asked) error { return s.Tick(k) }), does(func(s asked) error { return s.Deliver(0) }))
	}
	for k := range 3 {
		l = append(l,
			does(func(s asked) error { return s.See(k, in(15, 7)) }),
			does(func(s asked) error { return s.Asks(k) }),
			does(func(s asked) error { return s.Deliver(1) }),
			does(func(s asked) error { return s.Deliver(0) }))
	}
	for range 4 {
		l = append(l, func(s asked) string { s.Calm(1); return "" })
	}
	return l
}

// alike fails unless two systems do alike from now on.
func alike(t *testing.T, what string, a, b asked) {
	t.Helper()
	if !same(seen(a), seen(b)) {
		t.Fatalf("%s: %+v, not %+v", what, seen(a), seen(b))
	}
	if got, want := tape(a, probes()...), tape(b, probes()...); !slices.Equal(got, want) {
		t.Fatalf("%s: %v, not %v", what, got, want)
	}
}

// die: numbers that look drawn, the same each time.
type die uint64

func (d *die) upTo(n int) int {
	*d = *d*6364136223846793005 + 1442695040888963407
	return int(uint64(*d>>33) % uint64(n))
}
