package desk_test

import (
	"fmt"
	"math/big"
	"regexp"
	"slices"
	"strings"
	"testing"

	"triumvir/api"
	"triumvir/core"
	"triumvir/desk"
	"triumvir/layout"
	"triumvir/system"
)

// model is a session as the document tells it, sentence by sentence, of a system that is asked by its calls.
type model struct {
	*system.System
	line api.Layout
}

// begin is a new system, and its line.
func begin(n []int) (model, error) {
	l := api.Layout{Sections: n[2], Delay: n[1], Routes: n[3:]}
	s, err := system.New(l, n[0])
	return model{s, l}, err
}

func modelled(t *testing.T, text string) string {
	t.Helper()
	if len(text) > 20000 {
		return "error 4\n"
	}
	text = strings.TrimSuffix(text, "\n")
	m, err := begin([]int{10, 2, 4, 3, 12, 6})
	if err != nil {
		t.Fatal(err)
	}
	var told strings.Builder
	for _, line := range strings.Split(text, "\n") {
		told.WriteString(m.answer(line) + "\n")
	}
	return told.String()
}

// written is how numbers are.
var written = regexp.MustCompile(`\A(0|-?[1-9][0-9]*)\z`)

// read is what words say, if all of them are numbers of 64 bits.
func read(words []string) ([]int, bool) {
	l := []int{}
	for _, w := range words {
		n, ok := new(big.Int).SetString(w, 10)
		if !written.MatchString(w) || !ok || !n.IsInt64() {
			return nil, false
		}
		l = append(l, int(n.Int64()))
	}
	return l, true
}

// behind is how many words stand behind a line's; -1, if there is no such line.
func behind(word string) int {
	switch word {
	case "latch", "show", "trace", "many", "conflicts", "most", "help":
		return 0
	case "tick", "ask", "deliver", "lose", "twice", "crash", "calm", "replica":
		return 1
	case "see":
		return 3
	case "begin":
		return 4
	}
	return -1
}

func (m *model) answer(line string) string {
	words := slices.DeleteFunc(strings.Split(line, " "), func(w string) bool { return w == "" })
	if len(words) == 0 {
		return "ok"
	}
	word, many := words[0], behind(words[0])
	n, ok := read(words[1:])
	if !ok || many < 0 || len(n) < many || len(n) > many && word != "begin" {
		return "error 3"
	}
	if many == 0 {
		return m.tells(word)
	}
	answer, err := m.does(word, n)
	if err != nil {
		return fmt.Sprint("error ", int(api.Tell(err)))
	}
	return answer
}

// tells is what a line without numbers answers.
func (m *model) tells(word string) string {
	switch word {
	case "latch":
		m.Latch()
		return word
	case "show":
		return fmt.Sprintf("%d %d %v", m.Shown(), m.Out(), m.Latched())
	case "trace":
		s := ""
		for i, c := range m.Trace() {
			if i > 0 {
				s += ", "
			}
			s += fmt.Sprintf("%d %d %d", c.In.Clear, c.In.Wanted, c.Out)
		}
		return s
	case "many":
		return fmt.Sprintf("%d %d", m.Many(), m.Lost())
	case "conflicts":
		l, _ := layout.Conflicts(m.line)
		return strings.Trim(fmt.Sprint(l), "[]")
	case "most":
		n, _ := layout.Most(m.line)
		return fmt.Sprint(n)
	}
	return "ask begin calm conflicts crash deliver help latch lose many most replica see show tick trace twice"
}

// does is what a line with numbers answers.
func (m *model) does(word string, n []int) (string, error) {
	switch word {
	case "begin":
		other, err := begin(n)
		if err == nil {
			*m = other
		}
		return word, err
	case "see":
		return word, m.See(n[0], api.Input{Clear: n[1], Wanted: n[2]})
	case "tick":
		return word, m.Tick(n[0])
	case "ask":
		return word, m.Asks(n[0])
	case "deliver":
		return word, m.Deliver(n[0])
	case "lose":
		return word, m.Lose(n[0])
	case "twice":
		return word, m.Twice(n[0])
	case "crash":
		return word, m.Crash(n[0])
	case "replica":
		cycle, s, err := m.Replica(n[0])
		return fmt.Sprintf("%d %d", cycle, s.Set), err
	}
	if n[0] < 0 || n[0] > 100 {
		return "", api.ErrRange
	}
	m.Calm(n[0])
	return word, nil
}

// number is one that a line might have, mostly small.
func (d *die) number() string {
	switch d.upTo(30) {
	case 0:
		return []string{"-1", "21", "99", "100", "101", "4095", "4096", "9223372036854775807", "-9223372036854775808"}[d.upTo(9)]
	case 1:
		return noNumbers()[d.upTo(len(noNumbers()))]
	case 2, 3:
		return fmt.Sprint(d.upTo(16))
	}
	return fmt.Sprint(d.upTo(3))
}

// numbers are so many, now and then one fewer or more.
func (d *die) numbers(many int) []string {
	switch d.upTo(40) {
	case 0:
		many++
	case 1:
		many = max(0, many-1)
	}
	var l []string
	for range many {
		l = append(l, d.number())
	}
	return l
}

// beginning is a line that begins a new system, mostly one that may be.
func (d *die) beginning() string {
	if d.upTo(4) == 0 {
		return form{word: "begin"}.line(d.numbers(4 + d.upTo(3))...)
	}
	sections := 1 + d.upTo(6)
	l := []string{"begin", fmt.Sprint(1 + d.upTo(20)), fmt.Sprint(d.upTo(4)), fmt.Sprint(sections)}
	for range 1 + d.upTo(4) {
		l = append(l, fmt.Sprint(1+d.upTo(1<<sections-1)))
	}
	return strings.Join(l, " ")
}

// order is a drawn line (or three): rather one that lets things go on.
func (d *die) order() string {
	calls := []string{"see", "tick", "tick", "tick", "deliver", "deliver", "deliver", "deliver", "deliver", "show", "replica", "many", "trace", "calm", "ask", "lose", "twice"}
	few := []string{"conflicts", "most", "help", "latch", "crash", "crash", "tock", ""}
	switch n := d.upTo(100); {
	case n < 12:
		// All see the same, mostly that much is clear.
		clear := 63 &^ (d.upTo(2) << d.upTo(6))
		return strings.Join(seen(clear, d.upTo(16)), "\n")
	case n < 90:
		word := calls[d.upTo(len(calls))]
		return form{word: word}.line(d.numbers(behind(word))...)
	case n < 94:
		return d.beginning()
	}
	word := few[d.upTo(len(few))]
	if word == "latch" && d.upTo(3) > 0 {
		word = "calm 2"
	}
	return form{word: word}.line(d.numbers(max(0, behind(word)))...)
}

// text is a drawn one, of so many orders at most.
func (d *die) text(most int) string {
	var s strings.Builder
	for range d.upTo(most) {
		line := d.order()
		switch d.upTo(10) {
		case 0:
			line = strings.ReplaceAll(line, " ", "   ")
		case 1:
			line = " " + line
		case 2:
			line += "  "
		case 3:
			if d.upTo(6) == 0 {
				line += odd()[d.upTo(len(odd()))]
			}
		}
		s.WriteString(line + "\n")
	}
	if d.upTo(2) == 0 {
		return strings.TrimSuffix(s.String(), "\n")
	}
	return s.String()
}

func TestDrawnTextsAreTheModels(t *testing.T) {
	d := die(71)
	counted := map[string]int{}
	for range 4000 {
		text := d.text(100)
		got, want := desk.Session(text), modelled(t, text)
		if got != want {
			t.Fatalf("%q: %q, not %q", text, got, want)
		}
		for _, l := range strings.Split(strings.TrimSuffix(got, "\n"), "\n") {
			counted[l]++
			if strings.Contains(l, ", ") {
				counted["several cycles"]++
			}
		}
	}
	for _, l := range []string{"ok", "error 1", "error 2", "error 3", "error 9", "begin", "see", "tick", "ask", "deliver", "lose", "twice", "crash", "latch", "calm", "several cycles", "", "0 0 true", "0 0 false", "1 0 false", "2 0", "4 4 3"} {
		if counted[l] < 50 {
			t.Errorf("only %d times %q", counted[l], l)
		}
	}
}

func TestFirstLinesHaveTheFirstAnswers(t *testing.T) {
	d := die(83)
	for range 150 {
		text := d.text(50)
		whole := desk.Session(text)
		lines := strings.SplitAfter(strings.TrimSuffix(text, "\n"), "\n")
		if strings.Count(whole, "\n") != len(lines) || !strings.HasSuffix(whole, "\n") {
			t.Fatalf("%q has %d lines, and is answered %q", text, len(lines), whole)
		}
		for n := 1; n <= len(lines); n++ {
			first := strings.Join(lines[:n], "")
			got := desk.Session(first)
			if !strings.HasPrefix(whole, got) || strings.Count(got, "\n") != n {
				t.Fatalf("%q: %q, but all of it %q", first, got, whole)
			}
		}
	}
}

func TestTheSystemAtFirstIsTheOneThatIsTold(t *testing.T) {
	d := die(97)
	for range 500 {
		text := d.text(100) + "most"
		if got, want := "begin\n"+desk.Session(text), desk.Session("begin 10 2 4 3 12 6\n"+text); got != want {
			t.Fatalf("%q: %q, but behind begin %q", text, got, want)
		}
	}
}

// Lines that are answered by an error may be left out: all others are answered the same.
func TestNothingIsChangedBehindErrors(t *testing.T) {
	d := die(101)
	errors := 0
	for range 1000 {
		lines := strings.Split(strings.TrimSuffix(d.text(80), "\n"), "\n")
		var left, want []string
		for i, answer := range replies(lines...) {
			if strings.HasPrefix(answer, "error") {
				errors++
				continue
			}
			left, want = append(left, lines[i]), append(want, answer)
		}
		if len(left) > 0 {
			answered(t, joined(left), want...)
		}
	}
	if errors < 1000 {
		t.Errorf("only %d errors", errors)
	}
}

// commitsOf are what a line of a trace tells.
func commitsOf(t *testing.T, trace string) []api.Commit {
	t.Helper()
	var l []api.Commit
	if trace == "" {
		return l
	}
	for _, cycle := range strings.Split(trace, ", ") {
		n, ok := read(strings.Split(cycle, " "))
		if !ok || len(n) != 3 {
			t.Fatalf("%q is no trace", trace)
		}
		l = append(l, api.Commit{In: api.Input{Clear: n[0], Wanted: n[1]}, Out: n[2]})
	}
	return l
}

// What is committed shows the signals that the core shows of it, and what is known is known of it.
func TestWhatASessionCommitsIsRight(t *testing.T) {
	d := die(103)
	committed := 0
	for range 800 {
		var lines []string
		for range 60 {
			line := d.order()
			if !strings.HasPrefix(strings.TrimSpace(line), "begin") {
				lines = append(lines, line)
			}
		}
		got := replies(append(lines, "trace", "show", "replica 0", "replica 1", "replica 2")...)
		end := got[len(got)-5:]
		commits := commitsOf(t, end[0])
		sets, shown := stepped(t, commits)
		committed += len(commits)
		if end[1] != fmt.Sprint(shown, " 0 false") && end[1] != "0 0 true" {
			t.Fatalf("%q is shown, not %d", end[1], shown)
		}
		for k := range 3 {
			known, ok := read(strings.Split(end[2+k], " "))
			if !ok || len(known) != 2 || known[0] >= len(sets) || sets[known[0]] != known[1] {
				t.Fatalf("replica %d: %q, of %v", k, end[2+k], sets)
			}
		}
	}
	if committed < 1000 {
		t.Errorf("only %d are committed", committed)
	}
}

// stepped is which routes are set behind each cycle, from none on, and what the last one shows: each must be the core's.
func stepped(t *testing.T, commits []api.Commit) (sets []int, shown int) {
	t.Helper()
	c, err := core.New(api.Layout{Sections: 4, Routes: []int{3, 12, 6}, Delay: 2})
	if err != nil {
		t.Fatal(err)
	}
	var s api.State
	sets = []int{0}
	for i, x := range commits {
		s, shown = c.Step(s, x.In)
		if shown != x.Out {
			t.Fatalf("cycle %d of %v shows %d", i, commits, shown)
		}
		sets = append(sets, s.Set)
	}
	return sets, shown
}
