package system_test

import (
	"slices"
	"testing"

	"triumvir/api"
	"triumvir/core"
	"triumvir/layout"
	"triumvir/system"
)

// world is a system of which one replica says anything, and what is to be true of it: it is asked as a system is, and looks at each answer.
type world struct {
	*system.System
	t            *testing.T
	line         api.Layout
	core         *core.Core
	odd          int // who says anything
	window, left int // the voter's ticks
	sees         [3]api.Input
	saw          map[sight]api.Input
	trace        []api.Commit
	after        []api.State // what is known behind each cycle that was committed
	latched      bool
	happened     happened
}

// sight is that a replica was in a cycle when it told what it saw.
type sight struct{ replica, cycle int }

// happened is what came about: without that the drawn calls would prove nothing.
type happened struct{ committed, outs, fell, learnt, latched, lost, spoilt, twice, calmed int }

func newWorld(t *testing.T, l api.Layout, window, odd int) *world {
	s, err := system.New(l, window)
	if err != nil {
		t.Fatal(err)
	}
	c, err := core.New(l)
	if err != nil {
		t.Fatal(err)
	}
	return &world{System: s, t: t, line: l, core: c, odd: odd, window: window, left: window, saw: map[sight]api.Input{}, after: []api.State{{}}}
}

func (w *world) See(k int, x api.Input) error {
	err := w.System.See(k, x)
	if err == nil {
		w.sees[k], err = layout.Fit(w.line, x)
	}
	return err
}

func (w *world) Tick(k int) error {
	if cycle, _, err := w.Replica(k); err == nil {
		w.tells(k, cycle)
	}
	if k == api.Voter {
		w.left--
	}
	err := w.System.Tick(k)
	w.look()
	return err
}

// tells keeps that a replica tells what it sees, in a cycle.
func (w *world) tells(k, cycle int) {
	x := w.saw[sight{k, cycle}]
	w.saw[sight{k, cycle}] = in(x.Clear|w.sees[k].Clear, x.Wanted|w.sees[k].Wanted)
}

func (w *world) Deliver(i int) error {
	was := w.cycles()
	err := w.System.Deliver(i)
	w.look()
	for k, cycle := range w.cycles() {
		if cycle > was[k]+1 {
			w.happened.learnt++
		}
	}
	return err
}

func (w *world) cycles() (l [3]int) {
	for k := range l {
		l[k], _, _ = w.Replica(k)
	}
	return l
}

func (w *world) Twice(i int) error {
	w.happened.twice++
	return w.System.Twice(i)
}

func (w *world) Spoil(i, at int, what uint32) error {
	err := w.System.Spoil(i, at, what)
	if err == nil {
		w.happened.spoilt++
	}
	return err
}

func (w *world) Crash(k int) error {
	err := w.System.Crash(k)
	if err == nil {
		w.sees[k] = api.Input{}
		w.happened.fell++
	}
	w.look()
	return err
}

// Says lets that one alone say anything.
func (w *world) Says(k, to int, b []byte) error {
	if k != w.odd {
		return nil
	}
	return w.System.Says(k, to, b)
}

func (w *world) Calm(rounds int) {
	for range rounds {
		calmly(w)
	}
}

// look fails unless all is right.
func (w *world) look() {
	w.t.Helper()
	w.lookAtTrace()
	w.lookAtSignals()
	if w.Out()&^(1<<w.odd) != 0 {
		w.t.Fatalf("out are %d, but %d alone says anything", w.Out(), w.odd)
	}
	for k := range 3 {
		cycle, state, _ := w.Replica(k)
		if k != w.odd && (cycle > len(w.trace) || state != w.after[cycle]) {
			w.t.Fatalf("replica %d knows %+v, in cycle %d of %d", k, state, cycle, len(w.trace))
		}
	}
}

// lookAtTrace fails unless what was committed is right, and was seen.
func (w *world) lookAtTrace() {
	w.t.Helper()
	now := w.Trace()
	if len(now) < len(w.trace) || !slices.Equal(now[:len(w.trace)], w.trace) {
		w.t.Fatalf("%+v became %+v", w.trace, now)
	}
	if w.latched && len(now) > len(w.trace) {
		w.t.Fatalf("%+v was committed when it was latched", now)
	}
	for cycle := len(w.trace); cycle < len(now); cycle++ {
		c := now[cycle]
		next, out := w.core.Step(w.after[cycle], c.In)
		if c.Out != out {
			w.t.Fatalf("cycle %d: %+v, but the core shows %d", cycle, c, out)
		}
		var all api.Input
		for k := range 3 {
			if x := w.saw[sight{k, cycle}]; k != w.odd {
				all = in(all.Clear|x.Clear, all.Wanted|x.Wanted)
			}
		}
		if c.In.Clear&^all.Clear != 0 || c.In.Wanted&^all.Wanted != 0 {
			w.t.Fatalf("cycle %d: %+v, but all that was seen is %+v", cycle, c, all)
		}
		w.after = append(w.after, next)
		w.left = w.window
		w.happened.committed++
	}
	w.trace = now
}

// lookAtSignals fails unless what is shown was committed last, or is danger, for good.
func (w *world) lookAtSignals() {
	w.t.Helper()
	if w.latched && !w.Latched() {
		w.t.Fatal("it is not latched any more")
	}
	w.latched = w.Latched()
	want := 0
	if !w.latched && len(w.trace) > 0 {
		want = w.trace[len(w.trace)-1].Out
	}
	if w.Shown() != want {
		w.t.Fatalf("%d is shown, not %d; latched: %v", w.Shown(), want, w.latched)
	}
}

// enough are rounds in which something is committed, and known to all.
const enough = 4

// goesOn fails unless, behind rounds enough in which nothing is lost, something is committed, and all know it who are listened to.
func (w *world) goesOn() {
	w.t.Helper()
	was := len(w.trace)
	for range enough {
		for k, cycle := range w.cycles() {
			// In which of these it tells what it sees is not to be seen from outside.
			for c := cycle; c <= len(w.trace)+2; c++ {
				w.tells(k, c)
			}
		}
		w.System.Calm(1)
		w.look()
	}
	if len(w.trace) == was || w.latched {
		w.t.Fatalf("nothing is committed in %d rounds, or it is latched: %v", enough, w.latched)
	}
	for k, cycle := range w.cycles() {
		if w.Out()>>k&1 == 0 && cycle != len(w.trace) {
			w.t.Fatalf("replica %d is in cycle %d of %d", k, cycle, len(w.trace))
		}
	}
	w.happened.calmed++
}

// live lets drawn calls be, of which one of each rare asks others, and then looks whether it goes on.
func (w *world) live(d *die, calls, rare int) {
	w.t.Helper()
	h := hand{die: d, line: w.line, odd: w.odd, sees: in(-1, -1)}
	for range calls {
		h.call(w.Many(), len(w.trace))(w)
		if d.upTo(rare) == 0 {
			w.Asks(d.upTo(3))
		}
		w.look()
	}
	if !w.latched && w.left > enough {
		w.goesOn()
	}
	if w.Out() != 0 {
		w.happened.outs++
	}
	if w.latched {
		w.happened.latched++
	}
	w.happened.lost += w.Lost()
}

// add puts together what came about.
func (h *happened) add(x happened) {
	h.committed += x.committed
	h.outs += x.outs
	h.fell += x.fell
	h.learnt += x.learnt
	h.latched += x.latched
	h.lost += x.lost
	h.spoilt += x.spoilt
	h.twice += x.twice
	h.calmed += x.calmed
}

func TestWhateverHappensAllIsRight(t *testing.T) {
	d := die(41)
	var all happened
	for i := range 1500 {
		w := newWorld(t, d.layout(), 1+d.upTo(20), d.upTo(3))
		// With much that is asked all room is taken now and then.
		rare := []int{50, 50, 50, 2}[i%4]
		w.live(&d, 40+d.upTo(200), rare)
		all.add(w.happened)
	}
	if all.committed < 10000 || all.outs < 20 || all.fell < 1000 || all.learnt < 50 || all.latched < 100 || all.lost < 500 || all.spoilt < 500 || all.twice < 1000 || all.calmed < 500 {
		t.Errorf("too few: %+v", all)
	}
}

// without lets rounds go by in which these replicas are silent.
func (w *world) without(rounds int, silent ...int) {
	for range rounds {
		for range 2 {
			for k := range 3 {
				if !slices.Contains(silent, k) {
					w.Tick(k)
				}
			}
			allComes(w)
		}
		w.Tick(api.Voter)
	}
}

func TestTwoOfThreeGoOn(t *testing.T) {
	for silent := range 3 {
		w := newWorld(t, line(), 3, silent)
		for k := range 3 {
			fine(t, w.See(k, in(15, 5)))
		}
		w.without(12, silent)
		if w.Latched() || len(w.trace) < 6 || w.Shown() != 1 {
			t.Errorf("without %d: %d cycles, latched: %v", silent, len(w.trace), w.Latched())
		}
		// It is told what is committed, nevertheless.
		stands(t, "who is silent", w.System, silent, len(w.trace), w.after[len(w.trace)])
	}
}

func TestOneOfThreeDoesNotGoOn(t *testing.T) {
	for k := range 3 {
		a, b := others(k)
		w := newWorld(t, line(), 5, a)
		for k := range 3 {
			fine(t, w.See(k, in(15, 5)))
		}
		w.Calm(2)
		if w.Shown() != 1 || len(w.trace) != 2 {
			t.Fatalf("%d is shown, behind %d cycles", w.Shown(), len(w.trace))
		}
		w.without(5, a, b)
		if !w.Latched() || w.Shown() != 0 || len(w.trace) != 2 {
			t.Errorf("without two: %d cycles, latched: %v", len(w.trace), w.Latched())
		}
		// That both are there again does not help.
		w.Calm(10)
		if !w.Latched() || w.Shown() != 0 || len(w.trace) != 2 {
			t.Errorf("with all three again: %d cycles, latched: %v", len(w.trace), w.Latched())
		}
	}
}

// One says that all is clear and wanted, and that all signals show proceed: the others see a train.
func TestOneWhoLiesIsNotBelieved(t *testing.T) {
	for odd := range 3 {
		w := newWorld(t, line(), 9, odd)
		a, b := others(odd)
		for range 20 {
			cycle := len(w.trace)
			fine(t, w.See(a, in(12, 2)))
			fine(t, w.See(b, in(14, 2)))
			fine(t, w.See(odd, in(15, 7)))
			says(t, w, odd, a, sampleOf(odd, cycle, in(15, 7)))
			says(t, w, odd, b, sampleOf(odd, cycle, in(15, 7)))
			says(t, w, odd, a, knownOf(odd, cycle+1, api.State{Set: 3}))
			says(t, w, odd, b, doneOf(api.Voter, cycle, com(15, 7, 7)))
			says(t, w, odd, api.Voter, voteOf(odd, cycle, com(15, 7, 7)))
			says(t, w, odd, api.Voter, voteOf(a, cycle, com(15, 7, 7)))
			says(t, w, odd, api.Voter, voteOf(b, cycle, com(15, 7, 7)))
			w.Calm(1)
		}
		if w.Latched() || len(w.trace) < 10 {
			t.Errorf("%d cycles, latched: %v", len(w.trace), w.Latched())
		}
		for _, c := range w.trace {
			if c.In.Clear&1 != 0 || c.In.Wanted&^2 != 0 || c.Out&^2 != 0 {
				t.Errorf("%+v was committed", c)
			}
		}
	}
}

// One votes for other signals of what all see: it is out, and the others go on.
func TestOneWhoSaysOtherSignalsIsOut(t *testing.T) {
	for odd := range 3 {
		a, b := others(odd)
		w := newWorld(t, line(), 9, odd)
		for k := range 3 {
			fine(t, w.See(k, in(15, 5)))
		}
		w.Tick(a)
		w.Tick(b)
		allComes(w)
		says(t, w, odd, a, sampleOf(odd, 0, in(15, 5)))
		says(t, w, odd, b, sampleOf(odd, 0, in(15, 5)))
		says(t, w, odd, api.Voter, voteOf(odd, 0, com(15, 5, 4)))
		allComes(w)
		w.Tick(a)
		w.Tick(b)
		allComes(w)
		traced(t, "two say it alike", w.System, com(15, 5, 1))
		if w.Out() != 1<<odd || w.Latched() || w.Shown() != 1 {
			t.Errorf("out are %d, latched: %v, %d is shown", w.Out(), w.Latched(), w.Shown())
		}
		w.goesOn()
		if w.Out() != 1<<odd {
			t.Errorf("out are %d", w.Out())
		}
	}
}
