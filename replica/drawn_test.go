package replica_test

import (
	"slices"
	"testing"

	"triumvir/api"
	"triumvir/core"
	"triumvir/frame"
	"triumvir/layout"
	"triumvir/replica"
)

// model is a replica as the document tells it, sentence by sentence.
type model struct {
	id      int
	line    api.Layout
	core    *core.Core
	cycle   int
	state   api.State
	sees    api.Input
	ahead   int
	ticks   int
	samples map[int]came
	told    map[int]told
}

// came is a sample, and how many ticks of the cycle had gone by then.
type came struct {
	in    api.Input
	ticks int
}

// told is what another replica told.
type told struct {
	cycle int
	state api.State
}

func newModel(t *testing.T, id int, l api.Layout) *model {
	c, err := core.New(l)
	if err != nil {
		t.Fatal(err)
	}
	m := &model{id: id, line: l, core: c}
	m.goesTo(0, api.State{})
	return m
}

func (m *model) goesTo(cycle int, s api.State) {
	m.cycle, m.state, m.ticks = cycle, s, 0
	m.samples, m.told = map[int]came{}, map[int]told{}
}

func (m *model) view() view {
	return view{cycle: m.cycle, state: m.state, fused: m.fused(), asks: m.asks()}
}

func (m *model) asks() frame.Frame { return askOf(m.id, m.cycle) }

// fused counts, bit by bit, how many samples have it.
func (m *model) fused() api.Input {
	var clear, wanted [16]int
	for _, s := range m.samples {
		for i := range 16 {
			clear[i] += s.in.Clear >> i & 1
			wanted[i] += s.in.Wanted >> i & 1
		}
	}
	var l api.Input
	for i := range 16 {
		if clear[i] >= 2 {
			l.Clear += 1 << i
		}
		if wanted[i] >= 2 {
			l.Wanted += 1 << i
		}
	}
	return l
}

func (m *model) fitted(x api.Input) api.Input {
	x, err := layout.Fit(m.line, x)
	if err != nil {
		panic(err)
	}
	return x
}

func (m *model) tick() (sample, vote frame.Frame, ok bool) {
	m.ticks++
	for k, s := range m.samples {
		if m.ticks-s.ticks > 2 {
			delete(m.samples, k)
		}
	}
	own := m.fitted(m.sees)
	m.samples[m.id] = came{own, m.ticks}
	sample = sampleOf(m.id, m.cycle, own)
	if len(m.samples) == 3 || len(m.samples) == 2 && m.ticks > 2 {
		_, out := m.core.Step(m.state, m.fused())
		return sample, voteOf(m.id, m.cycle, m.fused(), out), true
	}
	if len(m.samples) == 1 && m.ticks > 2 {
		return sample, m.asks(), true
	}
	return sample, frame.Frame{}, false
}

func (m *model) take(f frame.Frame) []frame.Frame {
	another := f.From != m.id && f.From < 3
	if f.Kind == frame.Sample && another && f.Cycle == m.cycle {
		m.samples[f.From] = came{m.fitted(f.In), m.ticks}
	}
	if f.Kind == frame.Done && f.From == 3 && f.Cycle >= m.cycle {
		if f.Cycle > m.ahead {
			m.ahead = f.Cycle
		}
		if f.Cycle == m.cycle {
			s, _ := m.core.Step(m.state, f.In)
			m.goesTo(m.cycle+1, s)
		}
		if m.cycle <= m.ahead {
			return []frame.Frame{m.asks()}
		}
	}
	if f.Kind == frame.Ask && another {
		return []frame.Frame{knownOf(m.id, m.cycle, m.state)}
	}
	if f.Kind == frame.Known && another && f.Cycle > m.cycle && m.core.Right(f.State) {
		m.told[f.From] = told{f.Cycle, f.State}
		if other, ok := m.told[3-m.id-f.From]; ok && other == m.told[f.From] {
			m.goesTo(f.Cycle, f.State)
		}
	}
	return nil
}

// layout is one that is right.
func (d *die) layout() api.Layout {
	for {
		l := api.Layout{Sections: 1 + d.upTo(12), Delay: d.upTo(4)}
		for range 1 + d.upTo(8) {
			l.Routes = append(l.Routes, 1+d.upTo(1<<l.Sections-1))
		}
		if layout.Check(l) == nil {
			return l
		}
	}
}

// input is mostly clear, and has bits of what there is not.
func (d *die) input() api.Input {
	x := in(8191, d.upTo(512))
	switch d.upTo(3) {
	case 0:
		x.Clear = d.upTo(8192)
	case 1:
		x.Clear &^= 1 << d.upTo(4)
	}
	return x
}

// state is mostly one that is right, and one of few.
func (d *die) state(m *model) api.State {
	var s api.State
	i := d.upTo(len(m.line.Routes))
	switch d.upTo(6) {
	case 0:
		s, _ = m.core.Step(m.state, in(-1, -1))
	case 1:
		s.Set = 1 << i
	case 2:
		s.Set, s.Used[i], s.Idle[i] = 1<<i, m.line.Routes[i], d.upTo(1002)
	case 3:
		s.Set, s.Idle[i] = 1<<i, d.upTo(6)
	case 4:
		s.Set, s.Used[i] = d.upTo(1<<len(m.line.Routes)+1), d.upTo(2)
	}
	return s
}

// frame is mostly one of, or near, the model's cycle.
func (d *die) frame(m *model) frame.Frame {
	near := max(0, m.cycle-1+d.upTo(5)*d.upTo(2))
	switch k := d.upTo(20); {
	case k < 9:
		f := sampleOf(d.upTo(4), m.cycle, d.input())
		if d.upTo(8) == 0 {
			f.Cycle = near
		}
		return f
	case k < 12:
		f := doneOf(m.cycle, d.input())
		if d.upTo(2) == 0 {
			f.Cycle = near
		}
		if d.upTo(8) == 0 {
			f.From = d.upTo(4)
		}
		return f
	case k < 13:
		return askOf(d.upTo(4), near)
	case k < 14:
		return voteOf(d.upTo(4), m.cycle, d.input(), d.upTo(4))
	}
	f := knownOf(d.upTo(4), m.cycle+1+d.upTo(2), d.state(m))
	if d.upTo(8) == 0 {
		f.Cycle = near
	}
	// What another one told is told by whoever it is, now and then, in full.
	if x, ok := m.told[d.upTo(3)]; ok && d.upTo(2) == 0 {
		f.Cycle, f.State = x.cycle, x.state
	}
	return f
}

// counted is what came about in drawn calls: without that they would prove nothing.
type counted struct{ went, learnt, asked, known, two, three, alone, silent int }

// run holds a replica against the model, over so many calls.
func (d *die) run(t *testing.T, c *counted, calls int) {
	id, l := d.upTo(3), d.layout()
	r, err := replica.New(id, l)
	if err != nil {
		t.Fatal(err)
	}
	m := newModel(t, id, l)
	for range calls {
		switch k := d.upTo(12); {
		case k < 1:
			m.sees = d.input()
			r.See(m.sees)
		case k < 5:
			d.tick(t, c, r, m)
		default:
			d.take(t, c, r, m)
		}
		if got, want := seen(r), m.view(); got != want {
			t.Fatalf("%+v, not %+v", got, want)
		}
	}
}

func (d *die) tick(t *testing.T, c *counted, r *replica.Replica, m *model) {
	sample, vote, ok := r.Tick()
	wantSample, wantVote, wantOk := m.tick()
	if sample != wantSample || vote != wantVote || ok != wantOk {
		t.Fatalf("Tick: %+v, %+v, %v; not %+v, %+v, %v", sample, vote, ok, wantSample, wantVote, wantOk)
	}
	switch {
	case !ok:
		c.silent++
	case len(m.samples) == 3:
		c.three++
	case len(m.samples) == 2:
		c.two++
	default:
		c.alone++
	}
}

func (d *die) take(t *testing.T, c *counted, r *replica.Replica, m *model) {
	f := d.frame(m)
	if _, err := frame.Encode(f); err != nil {
		return
	}
	was := m.cycle
	got, want := r.Take(f), m.take(f)
	if !slices.Equal(got, want) {
		t.Fatalf("Take of %+v: %+v, not %+v", f, got, want)
	}
	switch {
	case m.cycle > was && f.Kind == frame.Done:
		c.went++
	case m.cycle > was:
		c.learnt++
	case f.Kind == frame.Ask && len(want) > 0:
		c.known++
	}
	if f.Kind == frame.Done && len(want) > 0 {
		c.asked++
	}
}

func TestDrawnCallsAreTheModels(t *testing.T) {
	d := die(11)
	var c counted
	for range 3000 {
		d.run(t, &c, 100)
	}
	if c.went < 10000 || c.learnt < 1000 || c.asked < 5000 || c.known < 2000 || c.two < 2000 || c.three < 5000 || c.alone < 2000 || c.silent < 10000 {
		t.Errorf("too few: %+v", c)
	}
}
