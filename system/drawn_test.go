package system_test

import (
	"fmt"
	"strings"
	"testing"

	"triumvir/api"
	"triumvir/frame"
	"triumvir/layout"
	"triumvir/replica"
	"triumvir/system"
	"triumvir/voter"
)

// model is a system as the document tells it, sentence by sentence.
type model struct {
	*voter.Voter
	line     api.Layout
	replicas map[int]*replica.Replica
	net      []sent
	lost     int
}

// sent is what is under way: of whom, for whom, and its bits.
type sent struct {
	of, to int
	bits   string
}

func newModel(t *testing.T, l api.Layout, window int) *model {
	v, err := voter.New(window)
	if err != nil {
		t.Fatal(err)
	}
	m := &model{Voter: v, line: l, replicas: map[int]*replica.Replica{}}
	for k := range 3 {
		m.replicas[k], err = replica.New(k, l)
		if err != nil {
			t.Fatal(err)
		}
	}
	return m
}

func (m *model) send(of, to int, bits string) {
	if len(m.net) == 120 {
		m.lost++
	} else {
		m.net = append(m.net, sent{of, to, bits})
	}
}

// bitsOf are bytes, each one's greatest bit first.
func bitsOf(b []byte) string {
	var s strings.Builder
	for _, x := range b {
		for i := 7; i >= 0; i-- {
			s.WriteByte('0' + x>>i&1)
		}
	}
	return s.String()
}

// bytesOf is the other way round.
func bytesOf(bits string) []byte {
	b := make([]byte, len(bits)/8)
	for i, x := range bits {
		b[i/8] = b[i/8]*2 + byte(x-'0')
	}
	return b
}

func (m *model) tell(f frame.Frame, of int, to ...int) {
	for _, k := range to {
		m.send(of, k, bitsOf(written(f)))
	}
}

// both are the others, by their numbers.
func both(k int) []int { return [][]int{{1, 2}, {0, 2}, {0, 1}}[k] }

func (m *model) See(k int, x api.Input) error {
	if m.replicas[k] == nil {
		return api.ErrRange
	}
	m.replicas[k].See(x)
	return nil
}

func (m *model) Tick(k int) error {
	if k == 3 {
		m.Voter.Tick()
		return nil
	}
	if m.replicas[k] == nil {
		return api.ErrRange
	}
	sample, vote, ok := m.replicas[k].Tick()
	m.tell(sample, k, both(k)...)
	if ok {
		m.tell(vote, k, 3)
	}
	return nil
}

func (m *model) Asks(k int) error {
	if m.replicas[k] == nil {
		return api.ErrRange
	}
	m.tell(m.replicas[k].Asks(), k, both(k)...)
	return nil
}

// without is the net without the i-th.
func (m *model) without(i int) []sent {
	var l []sent
	for j, x := range m.net {
		if j != i {
			l = append(l, x)
		}
	}
	return l
}

func (m *model) no(i int) bool { return i < 0 || i >= len(m.net) }

func (m *model) Deliver(i int) error {
	if m.no(i) {
		return api.ErrRange
	}
	x := m.net[i]
	m.net = m.without(i)
	f, err := frame.Decode(bytesOf(x.bits))
	if err != nil || f.From != x.of {
		return nil
	}
	if x.to < 3 {
		for _, answer := range m.replicas[x.to].Take(f) {
			m.tell(answer, x.to, x.of)
		}
		return nil
	}
	l, all := m.Voter.Take(f)
	for _, answer := range l {
		if all {
			m.tell(answer, 3, 0, 1, 2)
		} else {
			m.tell(answer, 3, x.of)
		}
	}
	return nil
}

func (m *model) Lose(i int) error {
	if m.no(i) {
		return api.ErrRange
	}
	m.net = m.without(i)
	return nil
}

func (m *model) Twice(i int) error {
	if m.no(i) {
		return api.ErrRange
	}
	m.send(m.net[i].of, m.net[i].to, m.net[i].bits)
	return nil
}

func (m *model) Spoil(i, at int, what uint32) error {
	if m.no(i) {
		return api.ErrRange
	}
	bits := []byte(m.net[i].bits)
	if at < 0 || at >= len(bits) || what == 0 {
		return api.ErrArg
	}
	for j, x := range fmt.Sprintf("%032b", what) {
		if x == '1' && at+j >= len(bits) {
			return api.ErrArg
		}
		if x == '1' {
			bits[at+j] ^= 1
		}
	}
	if _, err := frame.Decode(bytesOf(m.net[i].bits)); err != nil {
		return api.ErrTwice
	}
	m.net[i].bits = string(bits)
	return nil
}

func (m *model) Crash(k int) error {
	if m.replicas[k] == nil {
		return api.ErrRange
	}
	r, err := replica.New(k, m.line)
	m.replicas[k] = r
	return err
}

func (m *model) Says(k, to int, b []byte) error {
	if want := saysWant(k, to, len(b)); want != api.OK {
		return want
	}
	m.send(k, to, bitsOf(b))
	return nil
}

func (m *model) Calm(rounds int) {
	for ; rounds > 0; rounds-- {
		calmly(m)
	}
}

func (m *model) Replica(k int) (int, api.State, error) {
	if m.replicas[k] == nil {
		return 0, api.State{}, api.ErrRange
	}
	return m.replicas[k].Cycle(), m.replicas[k].State(), nil
}

func (m *model) Many() int { return len(m.net) }

func (m *model) Lost() int { return m.lost }

// layout is one that is right.
func (d *die) layout() api.Layout {
	for {
		l := api.Layout{Sections: 1 + d.upTo(6), Delay: d.upTo(4)}
		for range 1 + d.upTo(5) {
			l.Routes = append(l.Routes, 1+d.upTo(1<<l.Sections-1))
		}
		if layout.Check(l) == nil {
			return l
		}
	}
}

// hand is what draws calls: on a line, with one who says anything.
type hand struct {
	*die
	line api.Layout
	odd  int
	sees api.Input // mostly all see the same
}

// input is mostly clear, and has bits of what there is not.
func (d *die) input() api.Input {
	x := in(8191, d.upTo(512))
	switch d.upTo(4) {
	case 0:
		x.Clear = d.upTo(8192)
	case 1:
		x.Clear &^= 1 << d.upTo(6)
	}
	return x
}

// input is mostly the same as the one ahead.
func (h *hand) input() api.Input {
	switch h.upTo(8) {
	case 0:
		h.sees = h.die.input()
	case 1:
		return h.die.input()
	}
	return h.sees
}

// one is a replica's number, now and then none.
func (h *hand) one() int {
	if h.upTo(40) == 0 {
		return []int{-1, 3, 4, 1 << 40}[h.upTo(4)]
	}
	return h.upTo(3)
}

// ith is mostly near the front of so many, now and then none of them.
func (h *hand) ith(many int) int {
	switch h.upTo(12) {
	case 0:
		return many - 1
	case 1:
		return many - h.upTo(3)
	case 2:
		return h.upTo(130) - 5
	}
	return h.upTo(1 + h.upTo(1+min(many, 6)))
}

// said is what one who says anything says, near a cycle: mostly what might be believed.
func (h *hand) said(cycle int) []byte {
	f := frame.Frame{Kind: 1 + h.upTo(8)%5, From: h.odd, Cycle: cycle}
	if h.upTo(3) == 0 {
		f.Cycle = max(0, cycle+2-h.upTo(5))
	}
	if h.upTo(8) == 0 {
		f.From = h.upTo(4)
	}
	sees, _ := layout.Fit(h.line, h.sees)
	switch f.Kind {
	case frame.Sample:
		f.In = in(h.upTo(1<<h.line.Sections), h.upTo(256))
	case frame.Vote, frame.Done:
		f.In, f.Out = sees, h.upTo(1<<h.upTo(3))
	case frame.Known:
		f.State.Set = 1 << h.upTo(len(h.line.Routes)+1)
		f.State.Used[0] = h.upTo(2) * h.line.Routes[0]
	}
	if h.upTo(8) > 0 {
		return written(f)
	}
	b := make([]byte, h.upTo(83))
	for i := range b {
		b[i] = byte(h.upTo(256))
	}
	return b
}

// call is a drawn one, on a system with so many under way, in a cycle: rather one that lets things go on.
func (h *hand) call(many, cycle int) call {
	k, i, x := h.one(), h.ith(many), h.input()
	to, b := h.upTo(5), h.said(cycle)
	at, what := h.upTo(200)-3, uint32(h.upTo(1<<31))<<h.upTo(33)
	n := h.upTo(4) - 1
	switch kind := h.upTo(63); {
	case kind < 4:
		return does(func(s asked) error { return s.See(k, x) })
	case kind < 6:
		return does(func(s asked) error { s.See(0, x); s.See(1, x); return s.See(2, x) })
	case kind < 18:
		return does(func(s asked) error { return s.Tick(k) })
	case kind < 20:
		return does(func(s asked) error { return s.Asks(k) })
	case kind < 45:
		return does(func(s asked) error { return s.Deliver(i) })
	case kind < 47:
		return does(func(s asked) error { return s.Lose(i) })
	case kind < 49:
		return does(func(s asked) error { return s.Twice(i) })
	case kind < 51:
		return does(func(s asked) error { return s.Spoil(i, at, what) })
	case kind < 52:
		return does(func(s asked) error { return s.Crash(k) })
	case kind < 56:
		return does(func(s asked) error { return s.Says(h.odd, to, b) })
	case kind < 58:
		// A vote that is there at once may stand against the others'.
		return does(func(s asked) error { s.Says(h.odd, 3, b); return s.Deliver(s.Many() - 1) })
	case kind < 59:
		return does(func(s asked) error { return s.Tick(3) })
	case kind < 62:
		return func(s asked) string { s.Calm(n); return "" }
	case n == 0 && h.upTo(4) == 0:
		return func(s asked) string { s.Latch(); return "" }
	}
	return does(func(s asked) error { return s.Says(k, to, b) })
}

// against holds a system against the model, over so many calls, of which one of each rare asks others.
func (d *die) against(t *testing.T, calls, rare int) view {
	h := hand{die: d, line: d.layout(), odd: d.upTo(3), sees: in(-1, -1)}
	window := 1 + d.upTo(20)
	s, err := system.New(h.line, window)
	if err != nil {
		t.Fatal(err)
	}
	m := newModel(t, h.line, window)
	for range calls {
		c := h.call(m.Many(), len(m.Trace()))
		if k := d.upTo(3); d.upTo(rare) == 0 {
			c = does(func(s asked) error { return s.Asks(k) })
		}
		got, want := c(s), c(m)
		if got != want {
			t.Fatalf("%s, not %s", got, want)
		}
		if got, want := seen(s), seen(m); !same(got, want) {
			t.Fatalf("%+v, not %+v", got, want)
		}
	}
	return seen(s)
}

func TestDrawnCallsAreTheModels(t *testing.T) {
	d := die(17)
	var committed, outs, latched int
	for range 1200 {
		v := d.against(t, 150, 50)
		committed += len(v.trace)
		if v.out != 0 {
			outs++
		}
		if v.latched {
			latched++
		}
	}
	if committed < 5000 || outs < 15 || latched < 200 {
		t.Errorf("too few: %d committed, %d out, %d latched", committed, outs, latched)
	}
}

// With much that is asked, and little that comes, all room is taken soon.
func TestDrawnCallsOnAFullNet(t *testing.T) {
	d := die(23)
	lost := 0
	for range 100 {
		lost += d.against(t, 400, 3).lost
	}
	if lost < 1000 {
		t.Errorf("only %d are lost", lost)
	}
}
