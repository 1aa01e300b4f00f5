package core_test

import (
	"errors"
	"math"
	"slices"
	"testing"

	"triumvir/api"
	"triumvir/core"
	"triumvir/plain"
)

// line is a layout, written short.
func line(sections, delay int, routes ...int) api.Layout {
	return api.Layout{Sections: sections, Routes: routes, Delay: delay}
}

// example is the layout of the document's first example.
func example() api.Layout { return line(4, 2, 3, 12, 6) }

// made is a layout's core.
func made(t *testing.T, l api.Layout) *core.Core {
	t.Helper()
	c, err := core.New(l)
	if err != nil || c == nil {
		t.Fatalf("New of %v: %v, %v", l, c, err)
	}
	return c
}

// held is a route that is set, and what is known of it.
type held struct{ route, used, idle int }

// known is a state in which just these are set.
func known(l ...held) api.State {
	var s api.State
	for _, h := range l {
		s.Set |= 1 << h.route
		s.Used[h.route], s.Idle[h.route] = h.used, h.idle
	}
	return s
}

func sees(clear, wanted int) api.Input { return api.Input{Clear: clear, Wanted: wanted} }

func TestNewTellsChecksErrorsAndNoCore(t *testing.T) {
	for _, c := range []struct {
		name  string
		l     api.Layout
		errno api.Errno
		place int
	}{
		{"zero layout", api.Layout{}, api.ErrRange, -1},
		{"0 sections", line(0, 0, 1), api.ErrRange, -1},
		{"13 sections", line(13, 0, 1), api.ErrRange, -1},
		{"no routes", line(4, 2), api.ErrRange, -1},
		{"9 routes", line(4, 2, 1, 2, 3, 4, 5, 6, 7, 8, 9), api.ErrRange, -1},
		{"delay -1", line(4, -1, 1), api.ErrRange, -1},
		{"delay 21", line(4, 21, 1), api.ErrRange, -1},
		{"a route of nothing", line(4, 2, 3, 0, 6), api.ErrArg, 1},
		{"a route of what there is not", line(4, 2, 3, 12, 16), api.ErrArg, 2},
		{"a route below 0", line(4, 2, -1), api.ErrArg, 0},
		{"a route twice", line(4, 2, 3, 12, 6, 12), api.ErrTwice, 3},
		{"delay, and a route", line(4, 21, 0), api.ErrRange, -1},
		{"one twice, then a wrong one", line(4, 2, 3, 3, 0), api.ErrArg, 2},
	} {
		made, err := core.New(c.l)
		if made != nil {
			t.Errorf("New of %s: a core beside an error", c.name)
		}
		if errno, place := plain.Place(err); errno != c.errno || place != c.place {
			t.Errorf("New of %s: error %d at %d, not %d at %d", c.name, errno, place, c.errno, c.place)
		}
		var at *api.At
		if found := errors.As(err, &at); found != (c.place >= 0) {
			t.Errorf("New of %s: an At in the error: %v", c.name, found)
		}
	}
}

// is fails unless a core's layout is that one.
func is(t *testing.T, c *core.Core, want api.Layout) {
	t.Helper()
	got := c.Layout()
	if got.Sections != want.Sections || got.Delay != want.Delay || !slices.Equal(got.Routes, want.Routes) {
		t.Errorf("Layout: %v, not %v", got, want)
	}
}

func TestLayoutIsWhatWasTold(t *testing.T) {
	for _, l := range []api.Layout{
		example(),
		line(1, 0, 1),
		line(12, 20, 4095),
		line(12, 7, 128, 64, 32, 16, 8, 4, 2, 1),
		line(4, 1, 15, 1, 14, 2, 13, 4, 11, 8),
	} {
		c := made(t, l)
		is(t, c, l)
		c.Step(known(held{0, 0, 0}), sees(0, -1))
		is(t, c, l)
	}
}

// asExample fails unless a core does what that of the example does.
func asExample(t *testing.T, c *core.Core) {
	t.Helper()
	is(t, c, example())
	if s, shown := c.Step(api.State{}, sees(-1, -1)); s != known(held{0, 0, 0}, held{1, 0, 0}) || shown != 3 {
		t.Errorf("Step: %v, %d", s, shown)
	}
	if c.Right(known(held{0, 0, 0}, held{2, 0, 0})) || !c.Right(known(held{1, 8, 0})) {
		t.Error("Right is of other routes")
	}
}

func TestNoListIsSharedOrWrittenInto(t *testing.T) {
	memory := []int{3, 12, 6, 77, 78}
	c := made(t, api.Layout{Sections: 4, Routes: memory[:3], Delay: 2})
	asExample(t, c)
	if !slices.Equal(memory, []int{3, 12, 6, 77, 78}) {
		t.Errorf("the list that was handed in became %v", memory)
	}
	for i := range memory {
		memory[i] = 1
	}
	asExample(t, c)

	first, second := c.Layout(), c.Layout()
	for i := range first.Routes {
		first.Routes[i] = 8
	}
	_ = append(first.Routes[:0:cap(first.Routes)], 8, 8, 8, 8)
	if !slices.Equal(second.Routes, example().Routes) {
		t.Errorf("one answer was written into, another one became %v", second.Routes)
	}
	asExample(t, c)
}

func TestRightOfTheExample(t *testing.T) {
	c := made(t, example())
	for _, x := range []struct {
		name string
		s    api.State
		want bool
	}{
		{"nothing is set", api.State{}, true},
		{"the first", known(held{0, 0, 0}), true},
		{"the last", known(held{2, 0, 0}), true},
		{"two that do not meet", known(held{0, 0, 0}, held{1, 0, 0}), true},
		{"two that meet", known(held{0, 0, 0}, held{2, 0, 0}), false},
		{"two others that meet", known(held{1, 0, 0}, held{2, 0, 0}), false},
		{"all", api.State{Set: 7}, false},
		{"Set just beyond", api.State{Set: 8}, false},
		{"Set of what is and what is not", api.State{Set: 9}, false},
		{"Set -1", api.State{Set: -1}, false},
		{"Set -8", api.State{Set: -8}, false},
		{"the least Set", api.State{Set: math.MinInt}, false},
		{"the greatest Set", api.State{Set: math.MaxInt}, false},
		{"Set of a bit far beyond", api.State{Set: 1 << 40}, false},

		{"Used of one that is not set", api.State{Used: [8]int{1}}, false},
		{"Used below 0 of one that is not set", api.State{Used: [8]int{0, -1}}, false},
		{"Used of the other one", api.State{Set: 1, Used: [8]int{0, 4}}, false},
		{"Idle of one that is not set", api.State{Idle: [8]int{0, 0, 1}}, false},
		{"Idle below 0 of one that is not set", api.State{Idle: [8]int{-1}}, false},
		{"Idle of the other one", api.State{Set: 1, Idle: [8]int{0, 1}}, false},
		{"Used just beyond the routes", api.State{Used: [8]int{3: 1}}, false},
		{"Used at the last place", api.State{Set: 1, Used: [8]int{7: 1}}, false},
		{"Idle just beyond the routes", api.State{Idle: [8]int{3: 1}}, false},
		{"Idle at the last place", api.State{Set: 1, Idle: [8]int{7: 1}}, false},

		{"one section used", known(held{0, 1, 0}), true},
		{"the other section used", known(held{0, 2, 0}), true},
		{"all used", known(held{1, 12, 0}), true},
		{"a section used that is not its", known(held{0, 4, 0}), false},
		{"one of its and one not", known(held{0, 5, 0}), false},
		{"a section used that there is not", known(held{1, 16, 0}), false},
		{"Used -1", known(held{0, -1, 0}), false},
		{"the least Used", known(held{0, math.MinInt, 0}), false},
		{"both used, the second wrongly", known(held{0, 3, 0}, held{1, 2, 0}), false},
		{"both used", known(held{0, 3, 0}, held{1, 4, 0}), true},

		{"unused, Idle -1", known(held{0, 0, -1}), false},
		{"unused, the least Idle", known(held{0, 0, math.MinInt}), false},
		{"unused, Idle one below the Delay", known(held{0, 0, 1}), true},
		{"unused, Idle at the Delay", known(held{0, 0, 2}), true},
		{"unused, Idle above the Delay", known(held{0, 0, 3}), false},
		{"unused, Idle at MaxCycles", known(held{0, 0, api.MaxCycles}), false},
		{"used, Idle -1", known(held{0, 1, -1}), false},
		{"used, Idle above the Delay", known(held{0, 1, 3}), true},
		{"used, Idle at MaxCycles", known(held{0, 1, api.MaxCycles}), true},
		{"used, Idle above MaxCycles", known(held{0, 1, api.MaxCycles + 1}), false},
		{"used, the greatest Idle", known(held{0, 1, math.MaxInt}), false},
		{"one idle within, the other beyond", known(held{0, 0, 2}, held{1, 0, 3}), false},
	} {
		if got := c.Right(x.s); got != x.want {
			t.Errorf("Right of %s: %v", x.name, got)
		}
	}
}

func TestRightOfOtherLayouts(t *testing.T) {
	apart := line(12, 20, 1, 2, 4, 8, 16, 32, 64, 128)
	nested := line(12, 0, 4095, 1, 2)
	for _, x := range []struct {
		name string
		l    api.Layout
		s    api.State
		want bool
	}{
		{"all eight", apart, api.State{Set: 255}, true},
		{"just beyond eight", apart, api.State{Set: 256}, false},
		{"the eighth, used", apart, known(held{7, 128, 0}), true},
		{"the eighth, of another one's section", apart, known(held{7, 64, 0}), false},
		{"the greatest Delay", apart, known(held{7, 0, 20}), true},
		{"above the greatest Delay", apart, known(held{7, 0, 21}), false},
		{"Used of the eighth, which is not set", apart, api.State{Set: 127, Used: [8]int{7: 1}}, false},
		{"no Delay", nested, known(held{0, 0, 0}), true},
		{"above no Delay", nested, known(held{0, 0, 1}), false},
		{"one within the other", nested, known(held{0, 0, 0}, held{2, 0, 0}), false},
		{"both within a third", nested, known(held{1, 1, 5}, held{2, 0, 0}), true},
		{"all sections used", nested, known(held{0, 4095, 0}), true},
		{"of one route, Set 2", line(1, 0, 1), api.State{Set: 2}, false},
		{"of one route, Set 1", line(1, 0, 1), api.State{Set: 1}, true},
	} {
		if got := made(t, x.l).Right(x.s); got != x.want {
			t.Errorf("Right of %s: %v", x.name, got)
		}
	}
}

// stepCase is what is known and seen, and what Step tells.
type stepCase struct {
	name  string
	l     api.Layout
	s     api.State
	in    api.Input
	want  api.State
	shown int
}

// settingCases are of routes that are set anew.
func settingCases() []stepCase {
	l := example()
	none := api.State{}
	return []stepCase{
		{"nothing is wanted", l, none, sees(15, 0), none, 0},
		{"one is wanted", l, none, sees(15, 1), known(held{0, 0, 0}), 1},
		{"the last is wanted", l, none, sees(15, 4), known(held{2, 0, 0}), 4},
		{"all are wanted: the first of those that meet", l, none, sees(15, 7), known(held{0, 0, 0}, held{1, 0, 0}), 3},
		{"5 is wanted (example 6)", l, none, sees(15, 5), known(held{0, 0, 0}), 1},
		{"by their numbers, not as many as can be", line(4, 2, 6, 3, 12), none, sees(15, 7), known(held{0, 0, 0}), 1},
		{"the first section is busy", l, none, sees(14, 1), none, 0},
		{"the second section is busy", l, none, sees(13, 1), none, 0},
		{"sections of others are busy", l, none, sees(3, 1), known(held{0, 0, 0}), 1},
		{"one is busy, the next one is set in its place", l, none, sees(14, 5), known(held{2, 0, 0}), 4},
		{"all are busy", l, none, sees(0, 7), none, 0},
		{"one that meets is set", l, known(held{2, 0, 0}), sees(15, 7), known(held{2, 0, 0}), 4},
		{"one that meets is set and used", l, known(held{0, 1, 0}), sees(15, 5), known(held{0, 1, 0}), 0},
		{"another one is set", l, known(held{0, 0, 0}), sees(15, 3), known(held{0, 0, 0}, held{1, 0, 0}), 3},
		{"all eight", line(12, 0, 1, 2, 4, 8, 16, 32, 64, 128), none, sees(4095, 255), api.State{Set: 255}, 255},
	}
}

// holdingCases are of routes that stay set.
func holdingCases() []stepCase {
	l := example()
	return []stepCase{
		{"wanted and clear", l, known(held{0, 0, 0}), sees(15, 1), known(held{0, 0, 0}), 1},
		{"wanted once more", l, known(held{0, 0, 2}), sees(15, 1), known(held{0, 0, 0}), 1},
		{"not wanted any more", l, known(held{0, 0, 0}), sees(15, 0), known(held{0, 0, 1}), 0},
		{"others are wanted", l, known(held{0, 0, 0}), sees(15, 4), known(held{0, 0, 1}), 0},
		{"Idle comes to the Delay", l, known(held{0, 0, 1}), sees(15, 0), known(held{0, 0, 2}), 0},
		{"Idle comes to the greatest Delay", line(1, 20, 1), known(held{0, 0, 19}), sees(1, 0), known(held{0, 0, 20}), 0},
		{"entered", l, known(held{0, 0, 0}), sees(14, 1), known(held{0, 1, 0}), 0},
		{"entered, not wanted", l, known(held{0, 0, 0}), sees(14, 0), known(held{0, 1, 1}), 0},
		{"entered when Idle was at the Delay", l, known(held{0, 0, 2}), sees(14, 0), known(held{0, 1, 3}), 0},
		{"used, Idle above the Delay", l, known(held{0, 1, 50}), sees(15, 0), known(held{0, 1, 51}), 0},
		{"used, Idle at MaxCycles", l, known(held{0, 1, api.MaxCycles}), sees(15, 0), known(held{0, 1, api.MaxCycles + 1}), 0},
		{"used, wanted again", l, known(held{0, 1, 50}), sees(15, 1), known(held{0, 1, 0}), 0},
		{"part was used, all are clear", l, known(held{0, 2, 0}), sees(15, 1), known(held{0, 2, 0}), 0},
		{"all was used, the first is busy", l, known(held{0, 3, 0}), sees(14, 0), known(held{0, 3, 1}), 0},
		{"all was used, the last is busy", l, known(held{0, 3, 0}), sees(13, 1), known(held{0, 3, 0}), 0},
		{"the rest is used, and busy", l, known(held{0, 1, 0}), sees(13, 0), known(held{0, 3, 1}), 0},
		{"all is busy at once", l, known(held{0, 0, 0}), sees(12, 1), known(held{0, 3, 0}), 0},
		{"busy beside it", l, known(held{0, 0, 0}), sees(3, 1), known(held{0, 0, 0}), 1},
		{"two: one is entered", l, known(held{0, 0, 1}, held{1, 0, 2}), sees(11, 1), known(held{0, 0, 0}, held{1, 4, 3}), 1},
		{"held by nobody's wish, others that meet wait", l, known(held{0, 0, 1}), sees(15, 4), known(held{0, 0, 2}), 0},
	}
}

// lettingGoCases are of routes that are let go.
func lettingGoCases() []stepCase {
	l := example()
	none := api.State{}
	return []stepCase{
		{"all was used, none is busy", l, known(held{0, 3, 0}), sees(15, 0), none, 0},
		{"all was used long ago", l, known(held{0, 3, 900}), sees(15, 0), none, 0},
		{"all was used, busy beside it", l, known(held{0, 3, 0}), sees(3, 0), none, 0},
		{"all was used, set anew", l, known(held{0, 3, 5}), sees(15, 1), known(held{0, 0, 0}), 1},
		{"all was used, one that meets is set", l, known(held{0, 3, 0}), sees(15, 4), known(held{2, 0, 0}), 4},
		{"all was used, one ahead of it is set anew", l, known(held{2, 6, 0}), sees(15, 7), known(held{0, 0, 0}, held{1, 0, 0}), 3},
		{"all was used, one ahead of it is busy", l, known(held{2, 6, 0}), sees(14, 7), known(held{1, 0, 0}), 2},
		{"Idle goes above the Delay", l, known(held{0, 0, 2}), sees(15, 0), none, 0},
		{"Idle goes above the Delay, busy beside it", l, known(held{0, 0, 2}), sees(3, 0), none, 0},
		{"Idle goes above the greatest Delay", line(1, 20, 1), known(held{0, 0, 20}), sees(1, 0), none, 0},
		{"Idle goes above no Delay", line(1, 0, 1), known(held{0, 0, 0}), sees(1, 0), none, 0},
		{"idle, one that meets is set", l, known(held{0, 0, 2}), sees(15, 4), known(held{2, 0, 0}), 4},
		{"idle, two that meet it are set", l, known(held{2, 0, 2}), sees(15, 3), known(held{0, 0, 0}, held{1, 0, 0}), 3},
		{"one of two", l, known(held{0, 3, 0}, held{1, 8, 0}), sees(15, 0), known(held{1, 8, 1}), 0},
		{"both, in both ways", l, known(held{0, 3, 0}, held{1, 0, 2}), sees(15, 0), none, 0},
		{"the eighth", line(12, 0, 1, 2, 4, 8, 16, 32, 64, 128), known(held{7, 128, 0}), sees(4095, 0), none, 0},
	}
}

// strayCases are of inputs with bits of what there is not, and below 0.
func strayCases() []stepCase {
	l := example()
	none := api.State{}
	both := known(held{0, 0, 0}, held{1, 0, 0})
	return []stepCase{
		{"-1, -1", l, none, sees(-1, -1), both, 3},
		{"the greatest", l, none, sees(math.MaxInt, math.MaxInt), both, 3},
		{"the least", l, none, sees(math.MinInt, math.MinInt), none, 0},
		{"Wanted of the least", l, known(held{0, 0, 0}), sees(15, math.MinInt), known(held{0, 0, 1}), 0},
		{"Clear of the least", l, known(held{0, 0, 0}), sees(math.MinInt, 1), known(held{0, 3, 0}), 0},
		{"Wanted just beyond", l, none, sees(15, 8), none, 0},
		{"Wanted of a place beyond", l, none, sees(15, 128), none, 0},
		{"Wanted far beyond", l, none, sees(15, 1<<40), none, 0},
		{"Wanted of what is and what is not", l, none, sees(15, 8+2), known(held{1, 0, 0}), 2},
		{"Clear just beyond", l, none, sees(16, 7), none, 0},
		{"Clear of what is and what is not", l, none, sees(16+3, 7), known(held{0, 0, 0}), 1},
		{"Clear -2", l, none, sees(-2, 5), known(held{2, 0, 0}), 4},
		{"Wanted -2", l, none, sees(15, -2), known(held{1, 0, 0}), 2},
	}
}

func TestStep(t *testing.T) {
	for _, x := range slices.Concat(settingCases(), holdingCases(), lettingGoCases(), strayCases()) {
		c := made(t, x.l)
		if !c.Right(x.s) {
			t.Fatalf("%s: the state is not right", x.name)
		}
		if got, shown := c.Step(x.s, x.in); got != x.want || shown != x.shown {
			t.Errorf("Step, %s: %v, %d, not %v, %d", x.name, got, shown, x.want, x.shown)
		}
	}
}

func TestStepByStep(t *testing.T) {
	// The document's example 2: proceed, danger, danger, proceed.
	c := made(t, line(2, 1, 3))
	var s api.State
	for i, x := range []struct {
		in    api.Input
		want  api.State
		shown int
	}{
		{sees(3, 1), known(held{0, 0, 0}), 1},
		{sees(2, 1), known(held{0, 1, 0}), 0},
		{sees(1, 1), known(held{0, 3, 0}), 0},
		{sees(3, 1), known(held{0, 0, 0}), 1},
		{sees(3, 0), known(held{0, 0, 1}), 0},
		{sees(3, 0), api.State{}, 0},
		{sees(3, 0), api.State{}, 0},
	} {
		var shown int
		if s, shown = c.Step(s, x.in); s != x.want || shown != x.shown {
			t.Fatalf("step %d: %v, %d, not %v, %d", i, s, shown, x.want, x.shown)
		}
	}
}

func TestStepKeepsNothing(t *testing.T) {
	c := made(t, example())
	s := known(held{0, 1, 2})
	first, shown := c.Step(s, sees(13, 2))
	for range 5 {
		c.Step(known(held{2, 6, 0}), sees(-1, -1))
		c.Right(api.State{Set: -1})
		if again, shownAgain := c.Step(s, sees(13, 2)); again != first || shownAgain != shown {
			t.Errorf("the same once more: %v, %d, not %v, %d", again, shownAgain, first, shown)
		}
	}
	if s != known(held{0, 1, 2}) {
		t.Errorf("the state that was handed in became %v", s)
	}
}
