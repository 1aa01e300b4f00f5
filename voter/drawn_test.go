package voter_test

import (
	"math"
	"slices"
	"testing"

	"triumvir/api"
	"triumvir/frame"
	"triumvir/voter"
)

// model is a voter as the document tells it, sentence by sentence.
type model struct {
	window  int
	gone    int // ticks of this cycle
	trace   []api.Commit
	votes   map[int]api.Commit
	out     map[int]bool
	latched bool
}

func newModel(window int) *model {
	return &model{window: window, votes: map[int]api.Commit{}, out: map[int]bool{}}
}

func (m *model) view() view {
	l := view{trace: slices.Clone(m.trace), latched: m.latched}
	if !m.latched && len(m.trace) > 0 {
		l.shown = m.trace[len(m.trace)-1].Out
	}
	for k := range m.out {
		l.out += 1 << k
	}
	return l
}

func (m *model) tick() {
	if m.latched {
		return
	}
	m.gone++
	if m.gone == m.window {
		m.latched = true
	}
}

func (m *model) take(f frame.Frame) ([]frame.Frame, bool) {
	cycle, last := len(m.trace), len(m.trace)-1
	if !slices.Contains([]int{frame.Vote, frame.Ask}, f.Kind) || !slices.Contains([]int{0, 1, 2}, f.From) || m.out[f.From] || f.Cycle < 0 {
		return nil, false
	}
	if f.Cycle == last {
		return []frame.Frame{doneOf(last, m.trace[last])}, false
	}
	if f.Cycle < last {
		return []frame.Frame{doneOf(f.Cycle, m.trace[f.Cycle]), doneOf(last, m.trace[last])}, false
	}
	if f.Cycle > cycle || f.Kind == frame.Ask || m.latched {
		return nil, false
	}
	c := api.Commit{In: f.In, Out: f.Out}
	m.votes[f.From] = c
	alike := 0
	for _, said := range m.votes {
		if said == c {
			alike++
		}
	}
	if alike < 2 {
		return nil, false
	}
	m.commit(c)
	return []frame.Frame{doneOf(cycle, c)}, true
}

func (m *model) commit(c api.Commit) {
	for k, said := range m.votes {
		if said.In == c.In && said.Out != c.Out {
			m.out[k] = true
		}
	}
	m.trace = append(m.trace, c)
	m.votes = map[int]api.Commit{}
	m.gone = 0
	m.latched = len(m.out) >= 2 || len(m.trace) == api.MaxCycles
}

// frame is mostly a vote of the voter's own cycle, for one of few things.
func (d *die) frame(cycle int) frame.Frame {
	f := voteOf(d.upTo(3), cycle, com(d.upTo(2), 0, d.upTo(6)/5))
	switch d.upTo(12) {
	case 0:
		f.Kind = d.upTo(7)
	case 1:
		f.Kind = frame.Ask
	case 2:
		f.From = d.upTo(6) - 2
	case 3:
		f.Cycle = cycle - 3 + d.upTo(6)
	case 4:
		f.Cycle = d.upTo(cycle + 1)
	case 5:
		odd := []int{-1, math.MinInt, math.MaxInt, 1 << 40, 3, 64}
		n := odd[d.upTo(len(odd))]
		*[]*int{&f.Kind, &f.From, &f.Cycle, &f.In.Clear, &f.In.Wanted, &f.Out, &f.State.Set}[d.upTo(7)] = n
	}
	return f
}

// counted is what came about in drawn calls: without that they would prove nothing.
type counted struct{ committed, told, outs, byTicks, full, more int }

// run holds a voter against the model, over so many calls, of which one of each rare is a Tick.
func (d *die) run(t *testing.T, c *counted, calls, rare int) {
	window := 1 + d.upTo(api.MaxDelay)
	v, err := voter.New(window)
	if err != nil {
		t.Fatal(err)
	}
	m := newModel(window)
	for range calls {
		was := m.latched
		switch k := d.upTo(rare * 50); {
		case k == 0 && d.upTo(rare) == 0:
			v.Latch()
			m.latched = true
		case k < 50:
			v.Tick()
			m.tick()
			if m.latched && !was {
				c.byTicks++
			}
		default:
			d.take(t, c, v, m)
		}
		if got, want := seen(v), m.view(); !same(got, want) {
			t.Fatalf("%+v, not %+v", got, want)
		}
	}
	c.outs += len(m.out)
	if len(m.trace) == api.MaxCycles {
		c.full++
	}
}

func (d *die) take(t *testing.T, c *counted, v *voter.Voter, m *model) {
	f := d.frame(len(m.trace))
	got, all := v.Take(f)
	want, wantAll := m.take(f)
	if !slices.Equal(got, want) || all != wantAll {
		t.Fatalf("Take of %+v: %+v, to all: %v; not %+v, %v", f, got, all, want, wantAll)
	}
	switch {
	case all:
		c.committed++
	case len(got) == 1:
		c.told++
	case len(got) == 2:
		c.more++
	}
}

func TestDrawnCallsAreTheModels(t *testing.T) {
	d := die(7)
	var c counted
	for range 1500 {
		d.run(t, &c, 80, 2+d.upTo(20))
	}
	for range 2 {
		d.run(t, &c, 20000, 1000)
	}
	if c.committed < 10000 || c.told < 2000 || c.more < 5000 || c.outs < 500 || c.byTicks < 200 || c.full < 2 {
		t.Errorf("too few: %+v", c)
	}
}
