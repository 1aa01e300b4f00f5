package layout_test

import (
	"errors"
	"math"
	"slices"
	"testing"

	"triumvir/api"
	"triumvir/layout"
	"triumvir/plain"
)

// line is a layout, written short.
func line(sections, delay int, routes ...int) api.Layout {
	return api.Layout{Sections: sections, Routes: routes, Delay: delay}
}

// nowhere: the error has no At.
const nowhere = -1

// wrongCase is a layout, and what Check tells of it.
type wrongCase struct {
	name  string
	l     api.Layout
	errno api.Errno
	place int
}

// rangeCases are layouts beyond the bounds of Sections, of how many routes, of Delay.
func rangeCases() []wrongCase {
	return []wrongCase{
		{"zero layout", api.Layout{}, api.ErrRange, nowhere},
		{"0 sections", line(0, 0, 1), api.ErrRange, nowhere},
		{"13 sections", line(13, 0, 1), api.ErrRange, nowhere},
		{"-1 sections", line(-1, 0, 1), api.ErrRange, nowhere},
		{"64 sections", line(64, 0, 1), api.ErrRange, nowhere},
		{"least number of sections", line(math.MinInt, 0, 1), api.ErrRange, nowhere},
		{"greatest number of sections", line(math.MaxInt, 0, 1), api.ErrRange, nowhere},
		{"nil routes", line(4, 2), api.ErrRange, nowhere},
		{"no routes", api.Layout{Sections: 4, Routes: []int{}, Delay: 2}, api.ErrRange, nowhere},
		{"9 routes", line(4, 2, 1, 2, 3, 4, 5, 6, 7, 8, 9), api.ErrRange, nowhere},
		{"very many routes", api.Layout{Sections: 4, Routes: make([]int, 100_000), Delay: 2}, api.ErrRange, nowhere},
		{"delay -1", line(4, -1, 1), api.ErrRange, nowhere},
		{"delay 21", line(4, 21, 1), api.ErrRange, nowhere},
		{"least delay", line(4, math.MinInt, 1), api.ErrRange, nowhere},
		{"greatest delay", line(4, math.MaxInt, 1), api.ErrRange, nowhere},
	}
}

// argCases are layouts with a route that is none.
func argCases() []wrongCase {
	return []wrongCase{
		{"route 0", line(4, 2, 0), api.ErrArg, 0},
		{"route 0, the second", line(4, 2, 3, 0, 6), api.ErrArg, 1},
		{"route -1, the last", line(4, 2, 3, 12, -1), api.ErrArg, 2},
		{"least route", line(4, 2, 3, math.MinInt), api.ErrArg, 1},
		{"greatest route", line(4, 2, math.MaxInt), api.ErrArg, 0},
		{"route 2^1 of 1 section", line(1, 0, 2), api.ErrArg, 0},
		{"route 2^4 of 4", line(4, 2, 15, 16), api.ErrArg, 1},
		{"route 2^12 of 12", line(12, 20, 4095, 1, 4096), api.ErrArg, 2},
		{"bits that are and one that is not", line(4, 2, 3, 12, 6, 17), api.ErrArg, 3},
		{"the eighth", line(12, 0, 1, 2, 4, 8, 16, 32, 64, 5000), api.ErrArg, 7},
		{"the first of several", line(4, 2, 1, 16, 0, -1), api.ErrArg, 1},
	}
}

// twiceCases are layouts with a route that is there already.
func twiceCases() []wrongCase {
	return []wrongCase{
		{"the same at once", line(1, 0, 1, 1), api.ErrTwice, 1},
		{"the first and the last", line(4, 2, 3, 12, 6, 3), api.ErrTwice, 3},
		{"neither is the first", line(4, 2, 3, 12, 12), api.ErrTwice, 2},
		{"three times", line(4, 2, 9, 9, 9), api.ErrTwice, 1},
		{"the first second one of two pairs", line(4, 2, 1, 2, 2, 1), api.ErrTwice, 2},
		{"the first and the eighth", line(12, 0, 4095, 2, 4, 8, 16, 32, 64, 4095), api.ErrTwice, 7},
	}
}

// mixedCases are layouts with several things wrong at once.
func mixedCases() []wrongCase {
	return []wrongCase{
		{"sections, and a route", line(13, 0, 0), api.ErrRange, nowhere},
		{"sections, and one twice", line(0, 0, 1, 1), api.ErrRange, nowhere},
		{"delay, and a route", line(4, 21, 3, 16), api.ErrRange, nowhere},
		{"delay, and one twice", line(4, -1, 3, 3), api.ErrRange, nowhere},
		{"too many, of which one is wrong and one twice", line(4, 0, 0, 1, 1, 2, 3, 4, 5, 6, 7), api.ErrRange, nowhere},
		{"all that can be", line(-5, 99), api.ErrRange, nowhere},
		{"a wrong route, then one twice", line(4, 2, 0, 3, 3), api.ErrArg, 0},
		{"one twice, then a wrong route", line(4, 2, 3, 3, 0), api.ErrArg, 2},
		{"one twice, then one that is too great", line(4, 2, 3, 12, 3, 6, 16), api.ErrArg, 4},
		{"a wrong route twice", line(4, 2, 5, 0, 0), api.ErrArg, 1},
	}
}

// wrongLayouts are all of them.
func wrongLayouts() []wrongCase {
	return slices.Concat(rangeCases(), argCases(), twiceCases(), mixedCases())
}

// tells fails unless an error is the case's, and holds an At only if the case has a place.
func (c wrongCase) tells(t *testing.T, call string, err error) {
	t.Helper()
	if errno, place := plain.Place(err); errno != c.errno || place != c.place {
		t.Errorf("%s of %s: error %d at %d, not %d at %d", call, c.name, errno, place, c.errno, c.place)
	}
	var at *api.At
	if found := errors.As(err, &at); found != (c.place != nowhere) {
		t.Errorf("%s of %s: an At in the error: %v", call, c.name, found)
	} else if found && at.Err != c.errno {
		t.Errorf("%s of %s: the At's error is %d, not %d", call, c.name, at.Err, c.errno)
	}
}

func TestCheckTellsWhatIsWrong(t *testing.T) {
	for _, c := range wrongLayouts() {
		c.tells(t, "Check", layout.Check(c.l))
	}
}

func TestOthersTellChecksErrorsAndNothingElse(t *testing.T) {
	for _, c := range wrongLayouts() {
		conflicts, err := layout.Conflicts(c.l)
		c.tells(t, "Conflicts", err)
		if len(conflicts) != 0 {
			t.Errorf("Conflicts of %s: %v beside an error", c.name, conflicts)
		}
		most, err := layout.Most(c.l)
		c.tells(t, "Most", err)
		if most != 0 {
			t.Errorf("Most of %s: %d beside an error", c.name, most)
		}
		in, err := layout.Fit(c.l, api.Input{Clear: -1, Wanted: -1})
		c.tells(t, "Fit", err)
		if in != (api.Input{}) {
			t.Errorf("Fit of %s: %v beside an error", c.name, in)
		}
	}
}

// rightLayouts are at the ends of what may be, and between them.
func rightLayouts() []api.Layout {
	return []api.Layout{
		line(1, 0, 1),
		line(1, 20, 1),
		line(12, 0, 4095),
		line(12, 20, 1, 2048, 4095),
		line(12, 10, 1, 2, 4, 8, 16, 32, 64, 128),
		line(4, 1, 15, 1, 14, 2, 13, 4, 11, 8),
		line(4, 2, 3, 12, 6),
	}
}

func TestCheckOfLayoutsThatMayBe(t *testing.T) {
	for _, l := range rightLayouts() {
		if err := layout.Check(l); err != nil {
			t.Errorf("Check of %v: %v", l, err)
		}
	}
	for sections := range api.MaxSections {
		for delay := range api.MaxDelay + 1 {
			l := line(sections+1, delay, 1<<(sections+1)-1)
			if err := layout.Check(l); err != nil {
				t.Errorf("Check of %v: %v", l, err)
			}
		}
	}
}

func TestConflictsAndMost(t *testing.T) {
	for _, c := range []struct {
		name      string
		l         api.Layout
		conflicts []int
		most      int
	}{
		{"the document's first example", line(4, 2, 3, 12, 6), []int{4, 4, 3}, 2},
		{"one route", line(1, 0, 1), []int{0}, 1},
		{"none meets another", line(12, 0, 1, 2, 4, 8, 16, 32, 64, 128), []int{0, 0, 0, 0, 0, 0, 0, 0}, 8},
		{"each meets each", line(4, 0, 1, 3, 5, 9, 15, 7, 11, 13), []int{254, 253, 251, 247, 239, 223, 191, 127}, 1},
		{"one meets all others", line(8, 0, 255, 1, 2, 4), []int{14, 1, 1, 1}, 3},
		{"one within another", line(2, 0, 3, 1), []int{2, 1}, 1},
		{"a ring of five", line(5, 0, 3, 6, 12, 24, 17), []int{18, 5, 10, 20, 9}, 2},
		{"the last section in common", line(12, 0, 2049, 2050, 4), []int{2, 1, 0}, 2},
		{"the first one taken is not of the most", line(3, 0, 6, 2, 4, 1), []int{6, 1, 1, 0}, 3},
	} {
		conflicts, err := layout.Conflicts(c.l)
		if err != nil || !slices.Equal(conflicts, c.conflicts) {
			t.Errorf("Conflicts of %s: %v, %v, not %v", c.name, conflicts, err, c.conflicts)
		}
		most, err := layout.Most(c.l)
		if err != nil || most != c.most {
			t.Errorf("Most of %s: %d, %v, not %d", c.name, most, err, c.most)
		}
	}
}

// die: numbers that look drawn, the same each time.
type die uint64

func (d *die) upTo(n int) int {
	*d = *d*6364136223846793005 + 1442695040888963407
	return int(uint64(*d>>33) % uint64(n))
}

// drawn is a layout that may be.
func (d *die) drawn() api.Layout {
	l := api.Layout{Sections: 1 + d.upTo(api.MaxSections), Delay: d.upTo(api.MaxDelay + 1)}
	for range 1 + d.upTo(api.MaxRoutes) {
		// Mostly short routes: else nearly all would meet.
		route := 1 << d.upTo(l.Sections)
		if d.upTo(2) == 0 {
			route |= 1 << d.upTo(l.Sections)
		}
		if !slices.Contains(l.Routes, route) {
			l.Routes = append(l.Routes, route)
		}
	}
	return l
}

// mostOf counts by another way than the program: with the first route, or without it.
func mostOf(routes []int, taken int) int {
	if len(routes) == 0 {
		return 0
	}
	without := mostOf(routes[1:], taken)
	if routes[0]&taken != 0 {
		return without
	}
	return max(without, 1+mostOf(routes[1:], taken|routes[0]))
}

// meet says whether two routes have a section in common, section by section.
func meet(sections, a, b int) bool {
	for i := range sections {
		if a>>i&1 == 1 && b>>i&1 == 1 {
			return true
		}
	}
	return false
}

func TestConflictsAndMostOfDrawnLayouts(t *testing.T) {
	d := die(1)
	for range 2000 {
		l := d.drawn()
		conflicts, err := layout.Conflicts(l)
		if err != nil || len(conflicts) != len(l.Routes) {
			t.Fatalf("Conflicts of %v: %v, %v", l, conflicts, err)
		}
		for i, a := range l.Routes {
			for j, b := range l.Routes {
				if got, want := conflicts[i]>>j&1 == 1, i != j && meet(l.Sections, a, b); got != want {
					t.Errorf("Conflicts of %v: of %d and %d %v", l, i, j, got)
				}
			}
			if conflicts[i] < 0 || conflicts[i] >= 1<<len(l.Routes) {
				t.Errorf("Conflicts of %v: a route that there is not: %v", l, conflicts)
			}
		}
		if most, err := layout.Most(l); err != nil || most != mostOf(l.Routes, 0) {
			t.Errorf("Most of %v: %d, %v", l, most, err)
		}
	}
}

func TestFit(t *testing.T) {
	example := line(4, 2, 3, 12, 6)
	widest := line(12, 20, 1, 2, 4, 8, 16, 32, 64, 128)
	for _, c := range []struct {
		name     string
		l        api.Layout
		in, want api.Input
	}{
		{"nothing", example, api.Input{}, api.Input{}},
		{"all that there is", example, api.Input{Clear: 15, Wanted: 7}, api.Input{Clear: 15, Wanted: 7}},
		{"some of it", example, api.Input{Clear: 9, Wanted: 5}, api.Input{Clear: 9, Wanted: 5}},
		{"just beyond", example, api.Input{Clear: 16, Wanted: 8}, api.Input{}},
		{"what is and what is not", example, api.Input{Clear: 16 + 6, Wanted: 8 + 2}, api.Input{Clear: 6, Wanted: 2}},
		{"the greatest bit but one", example, api.Input{Clear: 1 << 62, Wanted: 1 << 62}, api.Input{}},
		{"-1", example, api.Input{Clear: -1, Wanted: -1}, api.Input{Clear: 15, Wanted: 7}},
		{"-2", example, api.Input{Clear: -2, Wanted: -2}, api.Input{Clear: 14, Wanted: 6}},
		{"-6", example, api.Input{Clear: -6, Wanted: -6}, api.Input{Clear: 10, Wanted: 2}},
		{"the least", example, api.Input{Clear: math.MinInt, Wanted: math.MinInt}, api.Input{}},
		{"one above the least", example, api.Input{Clear: math.MinInt + 1, Wanted: math.MinInt + 1}, api.Input{Clear: 1, Wanted: 1}},
		{"the greatest", example, api.Input{Clear: math.MaxInt, Wanted: math.MaxInt}, api.Input{Clear: 15, Wanted: 7}},
		{"one below 0, one not", example, api.Input{Clear: -1, Wanted: 3}, api.Input{Clear: 15, Wanted: 3}},
		{"of the least layout", line(1, 0, 1), api.Input{Clear: -1, Wanted: 3}, api.Input{Clear: 1, Wanted: 1}},
		{"of the widest", widest, api.Input{Clear: -1, Wanted: -1}, api.Input{Clear: 4095, Wanted: 255}},
		{"just beyond the widest", widest, api.Input{Clear: 4096, Wanted: 256}, api.Input{}},
		{"more routes than sections", line(2, 0, 1, 2, 3), api.Input{Clear: 7, Wanted: 7}, api.Input{Clear: 3, Wanted: 7}},
	} {
		if got, err := layout.Fit(c.l, c.in); err != nil || got != c.want {
			t.Errorf("Fit of %s: %v, %v, not %v", c.name, got, err, c.want)
		}
	}
}

// askAll calls all that takes a layout.
func askAll(l api.Layout) {
	layout.Check(l)
	layout.Conflicts(l)
	layout.Most(l)
	layout.Fit(l, api.Input{Clear: -1, Wanted: -1})
}

func TestNoListIsWrittenInto(t *testing.T) {
	layouts := rightLayouts()
	for _, c := range wrongLayouts() {
		layouts = append(layouts, c.l)
	}
	for _, l := range layouts {
		// What stands behind the list's length must stay, too.
		memory := append(slices.Clone(l.Routes), 77, 78, 79, 80)
		before := slices.Clone(memory)
		askAll(api.Layout{Sections: l.Sections, Routes: memory[:len(l.Routes)], Delay: l.Delay})
		if !slices.Equal(memory, before) {
			t.Errorf("%v: %v became %v", l, before, memory)
		}
	}
}

func TestNoListIsKept(t *testing.T) {
	routes := []int{3, 12, 6}
	l := api.Layout{Sections: 4, Routes: routes, Delay: 2}
	first, _ := layout.Conflicts(l)
	routes[2] = 2
	if !slices.Equal(first, []int{4, 4, 3}) {
		t.Errorf("an answer became %v when the routes did", first)
	}
	second, _ := layout.Conflicts(l)
	if !slices.Equal(second, []int{4, 0, 1}) {
		t.Errorf("of other routes: %v", second)
	}
	if most, _ := layout.Most(l); most != 2 {
		t.Errorf("of other routes the most is %d", most)
	}
	routes[2] = 12
	if errno, place := plain.Place(layout.Check(l)); errno != api.ErrTwice || place != 2 {
		t.Errorf("of other routes: error %d at %d", errno, place)
	}
}

func TestAnswersAreTheCallers(t *testing.T) {
	l := line(4, 2, 3, 12, 6)
	first, _ := layout.Conflicts(l)
	second, _ := layout.Conflicts(l)
	for i := range first {
		first[i] = 99
	}
	if !slices.Equal(second, []int{4, 4, 3}) || !slices.Equal(l.Routes, []int{3, 12, 6}) {
		t.Errorf("an answer that was written into changed others: %v, %v", second, l.Routes)
	}
	if third, _ := layout.Conflicts(l); !slices.Equal(third, []int{4, 4, 3}) {
		t.Errorf("an answer that was written into changed the next one: %v", third)
	}
}
