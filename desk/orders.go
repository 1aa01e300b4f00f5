package desk

import (
	"math"
	"strconv"
	"strings"

	"triumvir/api"
	"triumvir/layout"
	"triumvir/system"
)

// helpText is the words of all lines that there are.
const helpText = "ask begin calm conflicts crash deliver help latch lose many most replica see show tick trace twice"

// mostRounds is how many rounds of calm one line may ask for.
const mostRounds = 100

// desk is a system that is asked by text, its line (of which the system does not speak), and what can be told to it.
type desk struct {
	line   api.Layout
	system *system.System
	orders map[string]order
}

// order is what a line does, and how many numbers, at least and at most, stand behind its word.
type order struct {
	least, most int
	do          func(n []int) string
}

// newDesk is a desk as it is at first.
func newDesk() *desk {
	d := &desk{}
	d.orders = d.allOrders()
	d.begin([]int{10, 2, 4, 3, 12, 6})
	return d
}

// allOrders are those of a desk, by their words. They are of the desk, not of its system, for that may be another one later on.
func (d *desk) allOrders() map[string]order {
	return map[string]order{
		"ask":       {1, 1, d.ask},
		"begin":     {4, math.MaxInt, d.begin},
		"calm":      {1, 1, d.calm},
		"conflicts": {0, 0, d.conflicts},
		"crash":     {1, 1, d.crash},
		"deliver":   {1, 1, d.deliver},
		"help":      {0, 0, d.help},
		"latch":     {0, 0, d.latch},
		"lose":      {1, 1, d.lose},
		"many":      {0, 0, d.many},
		"most":      {0, 0, d.most},
		"replica":   {1, 1, d.replica},
		"see":       {3, 3, d.see},
		"show":      {0, 0, d.show},
		"tick":      {1, 1, d.tick},
		"trace":     {0, 0, d.trace},
		"twice":     {1, 1, d.twice},
	}
}

// begin takes a new system in the place of the old one.
func (d *desk) begin(n []int) string {
	line := api.Layout{Delay: n[1], Sections: n[2], Routes: n[3:]}
	s, err := system.New(line, n[0])
	throw(err)
	d.line, d.system = line, s
	return "begin"
}

// see lets a replica see something.
func (d *desk) see(n []int) string {
	throw(d.system.See(n[0], api.Input{Clear: n[1], Wanted: n[2]}))
	return "see"
}

// tick lets a tick of a replica, or of the voter, go by.
func (d *desk) tick(n []int) string {
	throw(d.system.Tick(n[0]))
	return "tick"
}

// ask lets a replica ask others what is known.
func (d *desk) ask(n []int) string {
	throw(d.system.Asks(n[0]))
	return "ask"
}

// deliver lets something come that is under way.
func (d *desk) deliver(n []int) string {
	throw(d.system.Deliver(n[0]))
	return "deliver"
}

// lose loses something that is under way.
func (d *desk) lose(n []int) string {
	throw(d.system.Lose(n[0]))
	return "lose"
}

// twice sends something once more that is under way.
func (d *desk) twice(n []int) string {
	throw(d.system.Twice(n[0]))
	return "twice"
}

// crash lets a replica fall.
func (d *desk) crash(n []int) string {
	throw(d.system.Crash(n[0]))
	return "crash"
}

// latch lets all signals show danger for good.
func (d *desk) latch([]int) string {
	d.system.Latch()
	return "latch"
}

// calm lets rounds go by in which nothing is lost.
func (d *desk) calm(n []int) string {
	if n[0] < 0 || n[0] > mostRounds {
		panic(api.ErrRange)
	}
	d.system.Calm(n[0])
	return "calm"
}

// show is which signals show proceed, who is out, and whether it is latched.
func (d *desk) show([]int) string {
	return spaced(d.system.Shown(), d.system.Out()) + " " + strconv.FormatBool(d.system.Latched())
}

// trace is what was committed, cycle by cycle.
func (d *desk) trace([]int) string {
	var cycles []string
	for _, c := range d.system.Trace() {
		cycles = append(cycles, spaced(c.In.Clear, c.In.Wanted, c.Out))
	}
	return strings.Join(cycles, ", ")
}

// replica is a replica's cycle, and the routes that it knows to be set.
func (d *desk) replica(n []int) string {
	cycle, state, err := d.system.Replica(n[0])
	throw(err)
	return spaced(cycle, state.Set)
}

// many is how many are under way, and how many were lost for want of room.
func (d *desk) many([]int) string { return spaced(d.system.Many(), d.system.Lost()) }

// conflicts is of each route those that it meets.
func (d *desk) conflicts([]int) string {
	l, err := layout.Conflicts(d.line)
	throw(err)
	return spaced(l...)
}

// most is how many routes can be set at once.
func (d *desk) most([]int) string {
	n, err := layout.Most(d.line)
	throw(err)
	return spaced(n)
}

// help is the words that there are.
func (d *desk) help([]int) string { return helpText }
