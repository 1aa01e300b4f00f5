package desk_test

import (
	"fmt"
	"slices"
	"strings"
	"testing"
)

func TestTheSystemAtFirst(t *testing.T) {
	talk(t, turn{"show", "0 0 false"}, turn{"trace", ""}, turn{"replica 0", "0 0"}, turn{"replica 1", "0 0"}, turn{"replica 2", "0 0"},
		turn{"many", "0 0"}, turn{"conflicts", "4 4 3"}, turn{"most", "2"})
	alike(t, "at first", nil, []string{"begin 10 2 4 3 12 6"})
}

func TestTheLineAtFirst(t *testing.T) {
	for clear, want := range map[int]string{-1: "15 7 3", 3: "3 7 1", 12: "12 7 2", 6: "6 7 4", 7: "7 7 1", 14: "14 7 2", 9: "9 7 0", 1: "1 7 0", 8: "8 7 0", 16: "0 7 0"} {
		talk(t, append(all(seen(clear, -1)...), says("calm 1"), turn{"trace", want})...)
	}
}

func TestTheWindowAtFirst(t *testing.T) {
	l := append(all(times(9, "tick 3")...), turn{"show", "0 0 false"}, says("tick 3"), turn{"show", "0 0 true"}, says("tick 3"), turn{"show", "0 0 true"})
	talk(t, l...)
}

func TestTheDelayAtFirst(t *testing.T) {
	l := slices.Concat(all(seen(15, 1)...), []turn{says("calm 1"), {"replica 0", "1 1"}}, all(seen(15, 0)...),
		[]turn{says("calm 1"), {"replica 0", "2 1"}, says("calm 1"), {"replica 1", "3 1"}, says("calm 1"), {"replica 2", "4 0"},
			{"trace", "15 1 1, 15 0 0, 15 0 0, 15 0 0"}})
	talk(t, l...)
}

func TestBegin(t *testing.T) {
	// Window 3, delay 1, three sections, routes of sections 0 and 1, and of 2.
	begun := says("begin 3 1 3 3 4")
	talk(t, begun, turn{"conflicts", "0 0"}, turn{"most", "2"}, says("tick 3"), says("tick 3"), turn{"show", "0 0 false"}, says("tick 3"), turn{"show", "0 0 true"})
	l := slices.Concat([]turn{begun}, all(seen(-1, -1)...), []turn{says("calm 1"), {"trace", "7 3 3"}, {"show", "3 0 false"}, {"replica 2", "1 3"}}, all(seen(-1, 0)...),
		[]turn{says("calm 1"), {"replica 0", "2 3"}, says("calm 1"), {"replica 0", "3 0"}, {"trace", "7 3 3, 7 0 0, 7 0 0"}})
	talk(t, l...)
	// Just four words.
	talk(t, says("begin 1 0 1 1"), turn{"conflicts", "0"}, turn{"most", "1"}, turn{"show", "0 0 false"}, says("tick 3"), turn{"show", "0 0 true"})
}

func TestBeginTakesAllAway(t *testing.T) {
	for _, first := range []string{"begin 10 2 4 3 12 6", "begin 7 0 12 4095", "begin 20 20 12 1 2 4 8 16 32 64 128"} {
		alike(t, first, append(stirred(), first), []string{first})
		alike(t, first, append(stirred(), "latch", first), []string{first})
		alike(t, first, append(stirred(), "calm 100", first, first), []string{first})
	}
	talk(t, slices.Concat(all(stirred()...), []turn{says("latch"), {"show", "0 0 true"}, {"many", "120 25"}, says("begin 10 2 4 3 12 6"), {"show", "0 0 false"}, {"many", "0 0"}, {"trace", ""}, {"replica 0", "0 0"}})...)
	// The old one is gone for each of the words. (Replica 0 sees nothing then, but two are enough.)
	l := slices.Concat(all(stirred()...), []turn{says("begin 5 0 2 1 2"), {"most", "2"}, {"conflicts", "0 0"}, says("ask 0"), {"many", "2 0"}, says("twice 0"), {"many", "3 0"}, says("deliver 0"), {"many", "3 0"},
		says("lose 0"), {"many", "2 0"}, says("tick 1"), {"many", "4 0"}, says("crash 1"), says("see 1 3 3"), says("see 2 3 3"), says("calm 2"), {"trace", "3 3 3, 3 3 3"}, {"replica 1", "2 3"}, says("latch"), {"show", "0 0 true"}})
	talk(t, l...)
}

func TestBeginEdges(t *testing.T) {
	for _, line := range []string{
		"begin 1 2 4 3", "begin 20 2 4 3", "begin 10 0 4 3", "begin 10 20 4 3", "begin 10 2 1 1", "begin 10 2 12 4095", "begin 10 2 12 1", "begin 10 2 4 15", "begin 10 2 4 1 2 4 8 3 5 9 6",
	} {
		talk(t, turn{line, "begin"})
	}
	for line, want := range map[string]string{
		"begin 0 2 4 3":                  "error 2",
		"begin 21 2 4 3":                 "error 2",
		"begin -1 2 4 3":                 "error 2",
		"begin 10 -1 4 3":                "error 2",
		"begin 10 21 4 3":                "error 2",
		"begin 10 2 0 3":                 "error 2",
		"begin 10 2 13 3":                "error 2",
		"begin 10 2 -4 3":                "error 2",
		"begin 10 2 4 1 2 4 8 3 5 9 6 7": "error 2",
		"begin 10 2 4 0":                 "error 1",
		"begin 10 2 4 16":                "error 1",
		"begin 10 2 4 -1":                "error 1",
		"begin 10 2 4 3 0":               "error 1",
		"begin 10 2 4 3 3 16":            "error 1",
		"begin 10 2 4 3 3":               "error 9",
		"begin 10 2 4 3 12 6 12":         "error 9",
		// The layout's error is told ahead of the voter's, what is no number ahead of both, and too few words.
		"begin 0 2 4 16":                  "error 1",
		"begin 0 2 4 3 3":                 "error 9",
		"begin 0 21 4 3 3":                "error 2",
		"begin 0 21 4 3 x":                "error 3",
		"begin 10 2 4 3 3 -0":             "error 3",
		"begin 0 2 4":                     "error 3",
		"begin 10 2 4":                    "error 3",
		"begin 10 2":                      "error 3",
		"begin 10":                        "error 3",
		"begin":                           "error 3",
		"begin " + long("1", 12):          "error 2",
		"begin 10 2 4 " + long("3", 9):    "error 2",
		"begin 10 2 4 " + long("3", 5000): "error 2",
	} {
		unchanged(t, line, want)
	}
}

// long is a word so many times.
func long(word string, n int) string { return strings.Join(times(n, word), " ") }

func TestBeginThatIsRefusedLetsTheOldLineBe(t *testing.T) {
	for _, line := range []string{"begin 0 1 3 1 2", "begin 10 2 4 5 5", "begin 10 2 4 5 99", "begin 10 2 99 5", "begin 10 2 4 5 x"} {
		l := replies("begin 9 1 3 1 3 7", line, "conflicts", "most")
		if l[2] != "6 5 3" || l[3] != "1" {
			t.Errorf("behind %q: %q", line, l)
		}
	}
}

func TestConflictsAndMost(t *testing.T) {
	for routes, want := range map[string][2]string{
		"3 12 6":            {"4 4 3", "2"},
		"1 2 4 8":           {"0 0 0 0", "4"},
		"15":                {"0", "1"},
		"15 1 2 4 8":        {"30 1 1 1 1", "4"},
		"1 3 5 9":           {"14 13 11 7", "1"},
		"1 2 4 8 3 5 9 6":   {"112 144 160 64 227 213 57 54", "4"},
		"12 3":              {"0 0", "2"},
		"7 14 8 1 6 9 15 2": {"250 245 98 97 195 79 191 83", "3"},
	} {
		talk(t, turn{"begin 10 2 4 " + routes, "begin"}, turn{"conflicts", want[0]}, turn{"most", want[1]})
	}
}

func TestWhomThereAre(t *testing.T) {
	for _, word := range []string{"ask", "crash", "replica", "tick"} {
		for k := -2; k < 7; k++ {
			line := fmt.Sprintf("%s %d", word, k)
			switch {
			case k >= 0 && k < 3 && word == "replica":
				talk(t, turn{line, "0 0"})
			case k >= 0 && k < 3, k == 3 && word == "tick":
				talk(t, turn{line, word})
			default:
				unchanged(t, line, "error 2")
			}
		}
	}
	for k := range 3 {
		talk(t, says(fmt.Sprintf("see %d 1 1", k)))
	}
	for _, k := range []int{-2, -1, 3, 4, 5} {
		unchanged(t, fmt.Sprintf("see %d 1 1", k), "error 2")
	}
}

func TestWhatIsUnderWay(t *testing.T) {
	for _, word := range []string{"deliver", "lose", "twice"} {
		unchanged(t, word+" -1", "error 2")
		unchanged(t, word+" 120", "error 2")
		answered(t, word+" 0", "error 2")
		for n := range 4 {
			for i := -1; i < 2*n+2; i++ {
				lines, answer := times(n, "ask 0"), word
				many := 2 * n
				switch {
				case i < 0 || i >= 2*n:
					answer = "error 2"
				case word == "lose":
					many--
				case word == "twice":
					many++
				}
				// What is asked is answered: one comes, another one is sent.
				talk(t, append(all(lines...), turn{fmt.Sprintf("%s %d", word, i), answer}, turn{"many", fmt.Sprint(many, " 0")})...)
			}
		}
	}
}

func TestWhichComes(t *testing.T) {
	// Under way: a sample of 0 for 1, of 0 for 2; of 1 for 0, of 1 for 2; of 2 for 0, of 2 for 1.
	begin := slices.Concat(seen(15, 5), []string{"tick 0", "tick 1", "tick 2"})
	// Replica 1 has all samples, if both for it come; then it votes with its next tick.
	for _, come := range [][]string{{"deliver 0", "deliver 4"}, {"deliver 5", "deliver 0"}, {"lose 1", "deliver 4", "deliver 0"}, {"twice 0", "deliver 6", "deliver 5"}, {"twice 5", "deliver 0", "deliver 5"}} {
		l := slices.Concat(begin, come)
		many := 6 - len(come)
		if strings.HasPrefix(come[0], "twice") {
			many = 5
		}
		talk(t, append(all(l...), turn{"many", fmt.Sprint(many, " 0")}, says("tick 1"), turn{"many", fmt.Sprint(many+3, " 0")})...)
	}
	for _, come := range [][]string{{"deliver 0", "deliver 0"}, {"deliver 4", "deliver 0", "crash 1"}, {"lose 0", "deliver 4"}, {"deliver 1", "deliver 1"}} {
		l := slices.Concat(begin, come)
		many := 6 - len(come)
		if slices.Contains(come, "crash 1") {
			many = 4
		}
		talk(t, append(all(l...), turn{"many", fmt.Sprint(many, " 0")}, says("tick 1"), turn{"many", fmt.Sprint(many+2, " 0")})...)
	}
}

func TestManyAndLost(t *testing.T) {
	talk(t, slices.Concat([]turn{{"many", "0 0"}}, all(times(59, "ask 0")...), []turn{{"many", "118 0"}, says("tick 1"), {"many", "120 0"}, says("ask 2"), {"many", "120 2"}, says("twice 7"), {"many", "120 3"},
		says("lose 119"), {"many", "119 3"}, says("tick 2"), {"many", "120 4"}, {"lose 120", "error 2"}, {"many", "120 4"}, says("calm 1"), {"many", "0 4"}})...)
}

func TestCalm(t *testing.T) {
	for _, n := range []string{"-1", "-100", "101", "102", "1000", "200"} {
		unchanged(t, "calm "+n, "error 2")
	}
	unchanged(t, "calm 0", "calm")
	for _, n := range []int{1, 2, 3, 50, 99, 100} {
		talk(t, slices.Concat(all(seen(15, 5)...), []turn{says(fmt.Sprint("calm ", n)), {"replica 1", fmt.Sprint(n, " 1")}, {"trace", strings.Repeat("15 5 1, ", n-1) + "15 5 1"}, {"many", "0 0"}, {"show", "1 0 false"}})...)
		alike(t, fmt.Sprint("calm ", n), append(stirred(), fmt.Sprint("calm ", n)), append(stirred(), times(n, "calm 1")...))
	}
	// Behind 1000 cycles it is latched.
	talk(t, slices.Concat(all(seen(15, 5)...), all(times(9, "calm 100")...), []turn{says("calm 99"), {"show", "1 0 false"}, says("calm 1"), {"show", "0 0 true"}, {"replica 0", "1000 1"}, {"trace", strings.Repeat("15 5 1, ", 999) + "15 5 1"}})...)
}

func TestShowAndLatch(t *testing.T) {
	l := slices.Concat([]turn{{"show", "0 0 false"}}, all(seen(15, 7)...), []turn{says("calm 1"), {"show", "3 0 false"}, says("latch"), {"show", "0 0 true"}, {"trace", "15 7 3"}, says("latch"), {"show", "0 0 true"}, says("calm 5"), {"show", "0 0 true"}, {"trace", "15 7 3"}, {"replica 0", "1 3"}})
	talk(t, l...)
	talk(t, says("latch"), turn{"show", "0 0 true"}, turn{"trace", ""}, says("begin 2 0 1 1"), turn{"show", "0 0 false"})
}

func TestTrace(t *testing.T) {
	talk(t, turn{"trace", ""}, says("calm 1"), turn{"trace", "0 0 0"}, says("calm 1"), turn{"trace", "0 0 0, 0 0 0"})
	// The document's second example.
	l := []turn{says("begin 3 0 2 3"), {"trace", ""}}
	want := []string{"3 1 1", "2 1 0", "1 1 0", "3 1 1"}
	for i, clear := range []int{3, 2, 1, 3} {
		l = slices.Concat(l, all(seen(clear, 1)...), []turn{says("calm 1"), {"trace", strings.Join(want[:i+1], ", ")}, {"show", want[i][4:] + " 0 false"}})
	}
	talk(t, l...)
	// The sixth one.
	talk(t, append(all(seen(15, 5)...), says("calm 1"), turn{"trace", "15 5 1"}, turn{"show", "1 0 false"})...)
	// Numbers of several digits.
	talk(t, slices.Concat([]turn{says("begin 3 0 12 1 2 4 8 16 32 64 4095")}, all(seen(4095, 127)...), []turn{says("calm 1"), {"trace", "4095 127 127"}, {"replica 2", "1 127"}, {"show", "127 0 false"}})...)
}

func TestReplica(t *testing.T) {
	// What is committed comes to replica 2 alone; the others stay in cycle 0.
	l := slices.Concat(all(seen(15, 6)...), all("tick 0", "tick 1", "tick 2"), all(times(6, "deliver 0")...), all("tick 0", "lose 0", "lose 0", "tick 1", "lose 1", "lose 1", "deliver 0", "deliver 0"),
		[]turn{{"many", "3 0"}, {"trace", "15 6 2"}, {"replica 0", "0 0"}, {"replica 1", "0 0"}, {"replica 2", "0 0"},
			says("deliver 2"), {"replica 0", "0 0"}, {"replica 1", "0 0"}, {"replica 2", "1 2"}, says("deliver 0"), {"replica 0", "1 2"}, {"replica 1", "0 0"},
			says("crash 2"), {"replica 2", "0 0"}, {"replica 0", "1 2"}})
	talk(t, l...)
}

func TestAskLearns(t *testing.T) {
	// One that fell asks the others, and knows what both tell.
	l := slices.Concat(all(seen(15, 5)...), []turn{says("calm 3"), says("crash 0"), {"replica 0", "0 0"}, says("ask 0"), {"many", "2 0"}, says("deliver 0"), says("deliver 0"), {"many", "2 0"}, says("deliver 0"), {"replica 0", "0 0"}, says("deliver 0"), {"replica 0", "3 1"}, {"many", "0 0"}})
	talk(t, l...)
}

func TestSeeStays(t *testing.T) {
	// What is seen holds until something else is; two of three are enough.
	talk(t, says("see 0 15 1"), says("see 1 7 3"), says("see 2 11 2"), says("calm 1"), turn{"trace", "15 3 3"}, says("see 1 7 0"), says("calm 1"), turn{"trace", "15 3 3, 15 0 0"}, says("see 1 3 1"), says("calm 1"), turn{"trace", "15 3 3, 15 0 0, 11 1 1"})
}

func TestHelp(t *testing.T) {
	const want = "ask begin calm conflicts crash deliver help latch lose many most replica see show tick trace twice"
	answered(t, "help", want)
	unchanged(t, "help", want)
	// Each of its words is one, and there are no others.
	for _, f := range forms() {
		if !slices.Contains(strings.Fields(want), f.word) {
			t.Errorf("%q is not told", f.word)
		}
	}
	if len(forms()) != len(strings.Fields(want)) {
		t.Errorf("%d words, not %d", len(strings.Fields(want)), len(forms()))
	}
}

// What only tells something changes nothing.
func TestWhatTellsChangesNothing(t *testing.T) {
	for _, ahead := range [][]string{nil, stirred()} {
		for i, line := range append(view(), "help", "", "   ") {
			with := slices.Concat(ahead, []string{line, line})
			alike(t, fmt.Sprint(i, line), with, ahead)
		}
	}
}
