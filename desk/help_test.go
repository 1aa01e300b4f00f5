package desk_test

import (
	"fmt"
	"slices"
	"strings"
	"testing"

	"triumvir/desk"
)

// answered fails unless the lines of a text are answered just so.
func answered(t *testing.T, text string, want ...string) {
	t.Helper()
	if got := desk.Session(text); got != joined(want) {
		t.Errorf("%.200q: %.400q, not %.400q", text, got, joined(want))
	}
}

// joined is lines, with a line feed behind each.
func joined(lines []string) string {
	var s strings.Builder
	for _, l := range lines {
		s.WriteString(l + "\n")
	}
	return s.String()
}

// turn is a line, and its answer.
type turn struct{ line, answer string }

// talk fails unless each line, behind those ahead, is answered so.
func talk(t *testing.T, turns ...turn) {
	t.Helper()
	var lines, want []string
	for _, x := range turns {
		lines, want = append(lines, x.line), append(want, x.answer)
	}
	got := replies(lines...)
	for i, x := range turns {
		if i >= len(got) || got[i] != x.answer {
			t.Errorf("line %d, %q: %q, not %q", i, x.line, got[i:min(i+1, len(got))], x.answer)
		}
	}
	answered(t, strings.Join(lines, "\n"), want...)
}

// replies are the answers to lines, one by one.
func replies(lines ...string) []string {
	s := desk.Session(joined(lines))
	return strings.Split(strings.TrimSuffix(s, "\n"), "\n")
}

// says is a turn of a line that answers its word.
func says(line string) turn { return turn{line, strings.Fields(line)[0]} }

// all is a turn each, of lines that answer their words.
func all(lines ...string) []turn {
	var l []turn
	for _, line := range lines {
		l = append(l, says(line))
	}
	return l
}

// seen is lines by which all replicas see the same.
func seen(clear, wanted int) []string {
	var l []string
	for k := range 3 {
		l = append(l, fmt.Sprintf("see %d %d %d", k, clear, wanted))
	}
	return l
}

// times is a line so many times.
func times(n int, line string) []string { return slices.Repeat([]string{line}, n) }

// view is lines that bring out how a system stands, and change nothing.
func view() []string {
	return []string{"show", "trace", "replica 0", "replica 1", "replica 2", "many", "conflicts", "most"}
}

// probes are lines that bring out what a system does not show of itself, too.
func probes() []string {
	l := view()
	for k := range 4 {
		l = append(l, fmt.Sprint("tick ", k), "deliver 0", "deliver 1")
		l = append(l, view()...)
	}
	for k := range 3 {
		l = append(l, fmt.Sprint("ask ", k), "deliver 0", "deliver 0", fmt.Sprintf("see %d 15 7", k))
		l = append(l, view()...)
	}
	for range 14 {
		l = append(l, "calm 1")
		l = append(l, view()...)
	}
	return l
}

// stirred is lines behind which a system has committed something, and something is under way, and lost.
func stirred() []string {
	l := slices.Concat(seen(15, 5), []string{"calm 2", "crash 1", "see 1 14 3", "tick 0", "tick 1", "tick 2", "deliver 3", "tick 3"})
	return append(l, times(70, "ask 2")...)
}

// unchanged fails unless a line is answered so, and changes nothing, at first and behind other lines.
func unchanged(t *testing.T, line, answer string) {
	t.Helper()
	for _, ahead := range [][]string{nil, stirred(), append(stirred(), "begin 7 1 3 1 6", "tick 1")} {
		got := replies(slices.Concat(ahead, []string{line}, probes())...)
		if len(got) <= len(ahead) || got[len(ahead)] != answer {
			t.Errorf("%q behind %d lines: %q, not %q", line, len(ahead), got[len(ahead):][:1], answer)
			continue
		}
		want := replies(slices.Concat(ahead, probes())...)
		if !slices.Equal(slices.Delete(got, len(ahead), len(ahead)+1), want) {
			t.Errorf("%q behind %d lines changes something: %q, not %q", line, len(ahead), got, want)
		}
	}
}

// alike fails unless all goes on the same way behind these lines as behind those.
func alike(t *testing.T, what string, a, b []string) {
	t.Helper()
	got := replies(append(slices.Clone(a), probes()...)...)
	want := replies(append(slices.Clone(b), probes()...)...)
	if !slices.Equal(got[len(a):], want[len(b):]) {
		t.Errorf("%s: %q, not %q", what, got[len(a):], want[len(b):])
	}
}

// die: numbers that look drawn, the same each time.
type die uint64

func (d *die) upTo(n int) int {
	*d = *d*6364136223846793005 + 1442695040888963407
	return int(uint64(*d>>33) % uint64(n))
}
