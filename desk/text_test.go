package desk_test

import (
	"fmt"
	"slices"
	"strings"
	"testing"

	"triumvir/api"
	"triumvir/desk"
)

func TestTheLongestText(t *testing.T) {
	// The bytes are counted, those of line feeds too, and not the runes.
	for _, part := range []string{"x", " ", "\n", "é", "\xff", "many ", "help\n", "\n\n"} {
		text := strings.Repeat(part, api.MaxText/len(part))
		if len(text) != api.MaxText {
			t.Fatalf("%q has no %d bytes", part, api.MaxText)
		}
		if got := desk.Session(text); got == "error 4\n" || got == "" {
			t.Errorf("%d bytes of %q: %q", len(text), part, got)
		}
		for _, more := range []string{"\n", " ", "x", "\x00", part} {
			answered(t, text+more, "error 4")
			answered(t, more+text, "error 4")
		}
		answered(t, strings.Repeat(text, 50), "error 4")
	}
	answered(t, strings.Repeat(" ", api.MaxText), "ok")
	answered(t, strings.Repeat("x", api.MaxText), "error 3")
	answered(t, strings.Repeat("\n", api.MaxText), times(api.MaxText, "ok")...)
	answered(t, strings.Repeat("most\n", api.MaxText/5), times(api.MaxText/5, "2")...)
	answered(t, "tick 0"+strings.Repeat("\n", api.MaxText-6), append([]string{"tick"}, times(api.MaxText-7, "ok")...)...)
}

func TestLines(t *testing.T) {
	for text, want := range map[string][]string{
		"":                  {"ok"},
		"\n":                {"ok"},
		"\n\n":              {"ok", "ok"},
		"\n\n\n":            {"ok", "ok", "ok"},
		"most":              {"2"},
		"most\n":            {"2"},
		"most\n\n":          {"2", "ok"},
		"\nmost":            {"ok", "2"},
		"\nmost\n":          {"ok", "2"},
		"most\nmost":        {"2", "2"},
		"most\nmost\n":      {"2", "2"},
		"most\n\nmost\n":    {"2", "ok", "2"},
		"most\n most":       {"2", "2"},
		" \n":               {"ok"},
		"\n ":               {"ok", "ok"},
		" \n \n":            {"ok", "ok"},
		"trace\n":           {""},
		"trace\ntrace":      {"", ""},
		"tick\n0":           {"error 3", "error 3"},
		"x\n":               {"error 3"},
		"x":                 {"error 3"},
		"tick 0\nmany\n\n ": {"tick", "2 0", "ok", "ok"},
	} {
		answered(t, text, want...)
	}
}

func TestBlanks(t *testing.T) {
	for _, n := range []int{1, 2, 3, 100} {
		answered(t, strings.Repeat(" ", n), "ok")
		for line, want := range map[string]string{"most": "2", "tick 0": "tick", "see 0 15 5": "see", "begin 10 2 4 3 12 6": "begin", "conflicts": "4 4 3", "tick 4": "error 2", "tick": "error 3"} {
			wide := strings.ReplaceAll(line, " ", strings.Repeat(" ", n))
			end := strings.Repeat(" ", n)
			for _, l := range []string{wide, end + wide, wide + end, end + wide + end, end + line, line + end} {
				answered(t, l, want)
				answered(t, l+"\n", want)
				answered(t, l+"\n"+l, want, want)
			}
		}
	}
}

// odd is bytes that look like blanks, or like nothing, and are no blanks, and no digits.
func odd() []string {
	l := []string{"\u00a0", "\u0085", "\u2003", "\u2028", "\u3000", "\ufeff", "\ufffd", "é", "€", "𝄞", "\xc3\x28", "\xe2\x80", "\xed\xa0\x80", "\xf4\x90\x80\x80", "\xc0\xa0", "\xe0\x80\xa0"}
	for b := range 256 {
		if b != ' ' && b != '\n' && (b < '0' || b > '9') {
			l = append(l, string([]byte{byte(b)}))
		}
	}
	return l
}

func TestWhatIsNoBlank(t *testing.T) {
	for _, x := range odd() {
		for _, line := range []string{
			x, " " + x, x + " ", " " + x + " ", x + x, x + " " + x,
			"most" + x, x + "most", "most " + x, x + " most", "mo" + x + "st",
			"tick" + x + "0", x + "tick 0", x + " tick 0", "tick " + x + " 0", "tick 0 " + x,
			"see 0" + x + "15 5", "see 0 15" + x + "5", "see 0 " + x + " 5",
			"tick " + x, "tick 0" + x, "see 0 15 5" + x,
		} {
			answered(t, line, "error 3")
			answered(t, line+"\nmany", "error 3", "0 0")
		}
		if x != "-" {
			answered(t, "tick "+x+"0", "error 3")
			answered(t, "see 0 15 "+x+"5", "error 3")
		}
	}
}

// form is a line's word, and such numbers behind it that it is not refused.
type form struct {
	word    string
	numbers []string
	answer  string
}

func forms() []form {
	return []form{
		{"begin", []string{"10", "2", "4", "3"}, "begin"},
		{"see", []string{"0", "15", "5"}, "see"},
		{"tick", []string{"0"}, "tick"},
		{"ask", []string{"0"}, "ask"},
		{"deliver", []string{"0"}, "deliver"},
		{"lose", []string{"0"}, "lose"},
		{"twice", []string{"0"}, "twice"},
		{"crash", []string{"0"}, "crash"},
		{"latch", nil, "latch"},
		{"calm", []string{"0"}, "calm"},
		{"show", nil, "0 0 false"},
		{"trace", nil, ""},
		{"replica", []string{"0"}, "0 0"},
		{"many", nil, "2 0"},
		{"conflicts", nil, "4 4 3"},
		{"most", nil, "2"},
		{"help", nil, "ask begin calm conflicts crash deliver help latch lose many most replica see show tick trace twice"},
	}
}

// line is a word with numbers behind it.
func (f form) line(numbers ...string) string {
	return strings.Join(append([]string{f.word}, numbers...), " ")
}

func TestHowManyWords(t *testing.T) {
	for _, f := range forms() {
		// Behind ask something is under way.
		talk(t, says("ask 1"), turn{f.line(f.numbers...), f.answer})
		if n := len(f.numbers); n > 0 {
			talk(t, says("ask 1"), turn{f.line(f.numbers[:n-1]...), "error 3"}, turn{"many", "2 0"})
			talk(t, says("ask 1"), turn{f.line(), "error 3"}, turn{"many", "2 0"})
		}
		more, answer := append(slices.Clone(f.numbers), "1"), "error 3"
		if f.word == "begin" {
			answer = "begin"
		}
		talk(t, says("ask 1"), turn{f.line(more...), answer})
		if f.word != "begin" {
			unchanged(t, f.line(more...), "error 3")
			unchanged(t, f.line(append(more, "1")...), "error 3")
			unchanged(t, f.line(append(more, "x")...), "error 3")
		}
	}
}

func TestWordsThatThereAreNot(t *testing.T) {
	for _, f := range forms() {
		for _, word := range []string{f.word[:len(f.word)-1], f.word + "s", strings.ToUpper(f.word), strings.ToUpper(f.word[:1]) + f.word[1:], f.word + ",", "\"" + f.word + "\"", f.word + "0", f.word[1:], "-" + f.word} {
			g := form{word: word}
			answered(t, g.line(f.numbers...), "error 3")
			answered(t, g.line(), "error 3")
		}
	}
	for _, line := range []string{"0", "1 tick", "ok", "error", "error 3", "asks 0", "spoil 0 0 1", "says 0 1", "lost", "out", "shown", "latched", "quit", "#", "0 tick 0", "- 1", "see0 1 1"} {
		unchanged(t, line, "error 3")
	}
}

// noNumbers are words that are not written as numbers are.
func noNumbers() []string {
	return []string{
		"-", "+", "+1", "+0", "00", "01", "-0", "-00", "-01", "--1", "-+1", "+-1", "1-", "1+", "a", "a1", "1a", "x", "0x1", "0X1", "0b1", "0o1", "1_0", "1e1", "1.0", "1.", ".1", "1,", "1,0",
		"٣", "１", "²", "−1", "true", "begin", "0\x00", "\x000", "0\t", "\t0", "0\r",
		"9223372036854775808", "-9223372036854775809", "9223372036854775810", "18446744073709551615", "18446744073709551616", "18446744073709551617", "-18446744073709551616",
		"10000000000000000000000", "-10000000000000000000000", strings.Repeat("1", 1000), strings.Repeat("0", 1000) + "1", "-" + strings.Repeat("9", 1000), "09223372036854775807", "-09223372036854775808",
	}
}

func TestWhatIsNoNumber(t *testing.T) {
	for _, f := range forms() {
		for i := range f.numbers {
			for _, x := range noNumbers() {
				l := slices.Clone(f.numbers)
				l[i] = x
				talk(t, says("ask 1"), turn{f.line(l...), "error 3"}, turn{"many", "2 0"}, turn{"replica 0", "0 0"})
			}
		}
	}
	// At each place of begin, behind routes too.
	for i := range 20 {
		for _, x := range noNumbers() {
			l := times(20, "1")
			l[i] = x
			answered(t, form{word: "begin"}.line(l...), "error 3")
		}
	}
	for _, line := range []string{"see x 15 5", "see 0 x 5", "see 0 15 x", "tick -0", "calm 01", "calm x", "begin x 2 4 3", "begin 10 2 4 3 12 06", "replica +0", "lose 00", "twice -", "crash 0x0", "deliver 1_0", "ask 0."} {
		unchanged(t, line, "error 3")
	}
}

func TestNumbersOfAllSizes(t *testing.T) {
	const least, greatest = "-9223372036854775808", "9223372036854775807"
	for _, word := range []string{"tick", "ask", "deliver", "lose", "twice", "crash", "replica", "calm"} {
		for _, n := range []string{least, greatest, "-9223372036854775807", "9223372036854775806", "-1", "-10", "4294967296", "-4294967296", "1000", "200"} {
			unchanged(t, word+" "+n, "error 2")
		}
	}
	for _, n := range []string{least, greatest, "-1", "3", "4294967296"} {
		unchanged(t, "see "+n+" 15 5", "error 2")
	}
	for _, n := range []string{least, greatest, "-1", "4294967297"} {
		unchanged(t, "begin "+n+" 2 4 3", "error 2")
		unchanged(t, "begin 10 "+n+" 4 3", "error 2")
		unchanged(t, "begin 10 2 "+n+" 3", "error 2")
		unchanged(t, "begin 10 2 4 "+n, "error 1")
		unchanged(t, "begin 10 2 4 3 "+n, "error 1")
	}
	// What is seen may be any number: bits of what there is not count for nothing.
	for seen, want := range map[string]string{
		least + " " + greatest:  "0 7 0",
		greatest + " " + least:  "15 0 0",
		"-1 -1":                 "15 7 3",
		"-2 -3":                 "14 5 4",
		"0 0":                   "0 0 0",
		"16 8":                  "0 0 0",
		"4294967311 4294967301": "15 5 1",
		"-9223372036854775793 -9223372036854775803":   "15 5 1",
		"9223372036854775807 9223372036854775807":     "15 7 3",
		"-9223372036854775807 9223372036854775806":    "1 6 0",
		"1152921504606846991    1152921504606846978 ": "15 2 2",
	} {
		talk(t, turn{"see 0 " + seen, "see"}, turn{"see 1 " + seen, "see"}, turn{"see 2 " + seen, "see"}, says("calm 1"), turn{"trace", want})
	}
}

func TestAnswersAreFresh(t *testing.T) {
	// Nothing is kept from session to session.
	text := strings.Join(slices.Concat(stirred(), []string{"latch"}, view()), "\n")
	first := desk.Session(text)
	for range 3 {
		if got := desk.Session(text); got != first {
			t.Fatalf("%q, then %q", first, got)
		}
		answered(t, "show\nmany\ntrace", "0 0 false", "0 0", "")
	}
}

func TestManyLinesAreEachAnswered(t *testing.T) {
	var lines, want []string
	for i := range 1500 {
		lines, want = append(lines, fmt.Sprint("calm ", i%3)), append(want, "calm")
		if i%5 == 0 {
			lines, want = append(lines, "  "), append(want, "ok")
		}
		if i%7 == 0 {
			lines, want = append(lines, "calm x"), append(want, "error 3")
		}
	}
	answered(t, strings.Join(lines, "\n"), want...)
}
