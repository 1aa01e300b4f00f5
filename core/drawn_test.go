package core_test

import (
	"math"
	"slices"
	"testing"

	"triumvir/api"
)

// die: numbers that look drawn, the same each time.
type die uint64

func (d *die) upTo(n int) int {
	*d = *d*6364136223846793005 + 1442695040888963407
	return int(uint64(*d>>33) % uint64(n))
}

// layout is one that may be, mostly of short routes and short delays: so that routes are set and let go often.
func (d *die) layout() api.Layout {
	l := api.Layout{Sections: 1 + d.upTo(api.MaxSections), Delay: d.upTo(4)}
	if d.upTo(5) == 0 {
		l.Delay = d.upTo(api.MaxDelay + 1)
	}
	for range 1 + d.upTo(api.MaxRoutes) {
		route := 1 << d.upTo(l.Sections)
		for range d.upTo(3) {
			route |= 1 << d.upTo(l.Sections)
		}
		if !slices.Contains(l.Routes, route) {
			l.Routes = append(l.Routes, route)
		}
	}
	return l
}

// input is mostly clear, mostly wants what the one ahead wanted, and has bits of what there is not.
func (d *die) input(ahead api.Input) api.Input {
	in := api.Input{Clear: -1, Wanted: ahead.Wanted}
	for range d.upTo(4) {
		in.Clear &^= 1 << d.upTo(api.MaxSections)
	}
	switch d.upTo(4) {
	case 0:
		in.Wanted = d.upTo(1<<10) - 1<<9
	case 1:
		in.Wanted ^= 1 << d.upTo(api.MaxRoutes)
	}
	return in
}

// odd is a number that stands at an edge, or not.
func (d *die) odd() int {
	edges := []int{0, 0, 1, -1, 2, 3, 255, 256, 4095, 4096, api.MaxCycles, api.MaxCycles + 1, math.MaxInt, math.MinInt, math.MaxInt - 1}
	if d.upTo(3) == 0 {
		return d.upTo(1<<13) - 1<<12
	}
	return edges[d.upTo(len(edges))]
}

// model is what the document says, of routes and sections one by one.
type model struct {
	l    api.Layout
	set  map[int]bool
	used map[int]map[int]bool
	idle map[int]int
}

func newModel(l api.Layout) *model {
	return &model{l: l, set: map[int]bool{}, used: map[int]map[int]bool{}, idle: map[int]int{}}
}

// bitsOf are the places of a number's bits, of the first n.
func bitsOf(number, n int) []int {
	var l []int
	for i := range n {
		if number>>i&1 == 1 {
			l = append(l, i)
		}
	}
	return l
}

func (m *model) sections(route int) []int { return bitsOf(m.l.Routes[route], m.l.Sections) }

func (m *model) busy(route int, in api.Input) []int {
	return slices.DeleteFunc(m.sections(route), func(section int) bool { return in.Clear>>section&1 == 1 })
}

// blocked says whether another route that is set has a section of its.
func (m *model) blocked(route int) bool {
	for other := range m.set {
		for _, section := range m.sections(other) {
			if other != route && slices.Contains(m.sections(route), section) {
				return true
			}
		}
	}
	return false
}

func (m *model) see(route int, in api.Input) {
	for _, section := range m.busy(route, in) {
		m.used[route][section] = true
	}
	if slices.Contains(bitsOf(in.Wanted, len(m.l.Routes)), route) {
		m.idle[route] = 0
	} else {
		m.idle[route]++
	}
}

func (m *model) step(in api.Input) (shown int) {
	for route := range m.l.Routes {
		if !m.set[route] {
			continue
		}
		m.see(route, in)
		all := len(m.used[route]) == len(m.sections(route)) && len(m.busy(route, in)) == 0
		none := len(m.used[route]) == 0 && m.idle[route] > m.l.Delay
		if all || none {
			delete(m.set, route)
			delete(m.used, route)
			delete(m.idle, route)
		}
	}
	for _, route := range bitsOf(in.Wanted, len(m.l.Routes)) {
		if !m.set[route] && !m.blocked(route) && len(m.busy(route, in)) == 0 {
			m.set[route] = true
			m.used[route] = map[int]bool{}
			m.idle[route] = 0
		}
		if m.set[route] && len(m.used[route]) == 0 && len(m.busy(route, in)) == 0 {
			shown += 1 << route
		}
	}
	return shown
}

func (m *model) state() api.State {
	var s api.State
	for route := range m.set {
		s.Set += 1 << route
		s.Idle[route] = m.idle[route]
		for section := range m.used[route] {
			s.Used[route] += 1 << section
		}
	}
	return s
}

func TestStepOfDrawnLinesIsTheModels(t *testing.T) {
	d := die(2)
	for range 400 {
		l := d.layout()
		c, m := made(t, l), newModel(l)
		var in api.Input
		for range 60 {
			s := m.state()
			if !c.Right(s) {
				t.Fatalf("%v: %v is not right", l, s)
			}
			in = d.input(in)
			got, shown := c.Step(s, in)
			want := m.step(in)
			if got != m.state() || shown != want {
				t.Fatalf("%v, %v, %v: %v, %d, not %v, %d", l, s, in, got, shown, m.state(), want)
			}
		}
	}
}

// watch keeps, of each route that is set, which sections of its were busy since, and counts how routes were let go.
type watch struct {
	l                        api.Layout
	since                    [api.MaxRoutes]int
	left, idle, anew, proves int
}

// letGo checks that each route that was let go was used wholly, or has nothing in it.
func (w *watch) letGo(t *testing.T, was, is api.State, in api.Input) {
	for i, route := range w.l.Routes {
		if was.Set>>i&1 == 0 {
			w.since[i] = 0
			continue
		}
		busy := route &^ in.Clear
		w.since[i] |= busy
		stays := is.Set>>i&1 == 1
		switch {
		case stays && is.Used[i] == w.since[i]:
			continue
		case w.since[i] == route && busy == 0:
			w.left++
		case w.since[i] == 0:
			w.idle++
		default:
			t.Errorf("%v: route %d is let go from %v to %v at %v", w.l, i, was, is, in)
		}
		if stays {
			w.anew++
		}
		w.since[i] = 0
	}
}

// meet checks that signals which show proceed have routes that are set, wanted and clear, of which no two meet.
func (w *watch) meet(t *testing.T, s api.State, shown int, in api.Input) {
	if shown < 0 || shown >= 1<<len(w.l.Routes) {
		t.Errorf("%v: signals that there are not: %d", w.l, shown)
	}
	for i, route := range w.l.Routes {
		if shown>>i&1 == 0 {
			continue
		}
		w.proves++
		if s.Set&in.Wanted>>i&1 == 0 || route&^in.Clear != 0 {
			t.Errorf("%v: signal %d shows proceed in %v at %v", w.l, i, s, in)
		}
		for j, other := range w.l.Routes {
			if j != i && s.Set>>j&1 == 1 && route&other != 0 {
				t.Errorf("%v: signal %d shows proceed, and route %d is set", w.l, i, j)
			}
		}
	}
}

func TestNoTwoMeet(t *testing.T) {
	d := die(3)
	left, idle, anew, proves := 0, 0, 0, 0
	for range 1000 {
		l := d.layout()
		c, w := made(t, l), watch{l: l}
		var s api.State
		var in api.Input
		for range 80 {
			in = d.input(in)
			next, shown := c.Step(s, in)
			w.letGo(t, s, next, in)
			w.meet(t, next, shown, in)
			if !c.Right(next) {
				t.Fatalf("%v: from %v at %v: %v is not right", l, s, in, next)
			}
			s = next
		}
		left, idle, anew, proves = left+w.left, idle+w.idle, anew+w.anew, proves+w.proves
	}
	// Without these the test would prove nothing.
	if left < 1000 || idle < 1000 || anew < 200 || proves < 10000 {
		t.Errorf("too few: %d were left, %d idle, %d set anew, %d showed proceed", left, idle, anew, proves)
	}
}

// mayBe is Right, told of routes one by one.
func mayBe(l api.Layout, s api.State) bool {
	if s.Set < 0 || s.Set>>len(l.Routes) != 0 {
		return false
	}
	m := newModel(l)
	for _, route := range bitsOf(s.Set, len(l.Routes)) {
		m.set[route] = true
	}
	for i := range api.MaxRoutes {
		if !m.set[i] && (s.Used[i] != 0 || s.Idle[i] != 0) {
			return false
		}
		if !m.set[i] {
			continue
		}
		if m.blocked(i) || s.Used[i]|l.Routes[i] != l.Routes[i] || s.Idle[i] < 0 || s.Idle[i] > api.MaxCycles {
			return false
		}
		if s.Used[i] == 0 && s.Idle[i] > l.Delay {
			return false
		}
	}
	return true
}

// state is one that may be, or nearly so.
func (d *die) state(l api.Layout) api.State {
	var s api.State
	taken := 0
	for i, route := range l.Routes {
		if d.upTo(2) == 0 || route&taken != 0 && d.upTo(12) > 0 {
			continue
		}
		taken |= route
		s.Set |= 1 << i
		s.Used[i] = route & d.upTo(1<<api.MaxSections)
		s.Idle[i] = d.upTo(l.Delay + 1)
		if s.Used[i] != 0 && d.upTo(3) == 0 {
			s.Idle[i] = d.upTo(api.MaxCycles + 2)
		}
	}
	switch d.upTo(8) {
	case 0:
		s.Used[d.upTo(api.MaxRoutes)] = d.odd()
	case 1:
		s.Idle[d.upTo(api.MaxRoutes)] = d.odd()
	case 2:
		s.Set = d.odd()
	}
	return s
}

func TestRightOfDrawnStates(t *testing.T) {
	d := die(4)
	count := map[bool]int{}
	for range 500 {
		l := d.layout()
		c := made(t, l)
		for range 40 {
			s := d.state(l)
			want := mayBe(l, s)
			count[want]++
			if got := c.Right(s); got != want {
				t.Fatalf("Right of %v in %v: %v", s, l, got)
			}
		}
	}
	if count[true] < 5000 || count[false] < 2000 {
		t.Errorf("too few that are right, or wrong: %v", count)
	}
}

func TestStepOfWrongStatesEnds(t *testing.T) {
	d := die(5)
	for range 300 {
		c := made(t, d.layout())
		for range 50 {
			s := api.State{Set: d.odd()}
			for i := range s.Used {
				s.Used[i], s.Idle[i] = d.odd(), d.odd()
			}
			next, _ := c.Step(s, api.Input{Clear: d.odd(), Wanted: d.odd()})
			c.Step(next, api.Input{Clear: d.odd(), Wanted: d.odd()})
			c.Right(s)
			c.Right(next)
		}
	}
}
