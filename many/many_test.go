package many_test

import (
	"errors"
	"fmt"
	"math"
	"runtime"
	"slices"
	"strings"
	"sync"
	"testing"
	"time"

	"triumvir/api"
	"triumvir/desk"
	"triumvir/many"
)

// texts are so many, each with another answer.
func texts(n int) []string {
	var l []string
	for i := range n {
		l = append(l, fmt.Sprintf("see 0 15 %d\nsee 1 15 %d\nsee 2 15 %d\ncalm %d\ntrace\nreplica 1\nshow\nbegin %d 1 4 %d\nmany", i, i, i, 1+i, 1+i%20, 1+i%20))
	}
	return l
}

// sessions are the answers to texts, one by one.
func sessions(l []string) []string {
	var answers []string
	for _, text := range l {
		answers = append(answers, desk.Session(text))
	}
	return answers
}

// answered fails unless texts are answered as sessions are.
func answered(t *testing.T, l []string, workers int, want []string) {
	t.Helper()
	got, err := many.All(l, workers)
	if err != nil || !slices.Equal(got, want) {
		t.Errorf("%d texts by %d workers: %.300q (%v), not %.300q", len(l), workers, got, err, want)
	}
}

// refused fails unless ErrLimit alone is answered.
func refused(t *testing.T, l []string, workers int) {
	t.Helper()
	got, err := many.All(l, workers)
	var at *api.At
	if got != nil || api.Tell(err) != api.ErrLimit || errors.As(err, &at) {
		t.Errorf("%d texts by %d workers: %.300q, %v", len(l), workers, got, err)
	}
}

func TestHowManyTexts(t *testing.T) {
	all := texts(51)
	answers := sessions(all)
	for i, a := range answers {
		if slices.Index(answers, a) != i {
			t.Fatalf("text %d is answered as another one: nothing would be told of the order", i)
		}
	}
	for _, n := range []int{0, 1, 2, 15, 16, 17, 49, 50} {
		for _, workers := range []int{1, 2, 3, 15, 16} {
			answered(t, all[:n], workers, answers[:n])
		}
	}
	for _, workers := range []int{1, 2, 16} {
		refused(t, all, workers)
		refused(t, slices.Repeat(all, 10), workers)
		refused(t, make([]string, 51), workers)
	}
	answered(t, nil, 1, nil)
	answered(t, nil, 16, nil)
	answered(t, []string{}, 7, nil)
}

func TestHowManyWorkers(t *testing.T) {
	all := texts(20)
	answers := sessions(all)
	for workers := 1; workers <= 16; workers++ {
		answered(t, all, workers, answers)
	}
	for _, workers := range []int{0, -1, -2, -16, 17, 18, 100, 1 << 32, 1<<32 + 1, math.MaxInt, math.MinInt} {
		refused(t, all, workers)
		refused(t, nil, workers)
		refused(t, texts(51), workers)
	}
}

// lengths are texts that take very different times: the longest one stands first, in the midst, or at the end.
func lengths() []string {
	slow := "see 0 15 5\nsee 1 15 5\n" + strings.Repeat("calm 100\n", 12) + "trace\nshow"
	return []string{
		slow, "", "\n", "most", strings.Repeat("x", api.MaxText), strings.Repeat("x", api.MaxText+1), "help\nhelp", strings.Repeat("\n", api.MaxText),
		slow + "\nmany", "trace", "\xff", strings.Repeat("many\n", api.MaxText/5), strings.Repeat("many\n", api.MaxText/5) + " ", " ", "tick 0\nmany",
		strings.Repeat("y", 30*api.MaxText), "calm 3\ntrace", slow + "\nreplica 2",
	}
}

func TestTextsOfAllLengths(t *testing.T) {
	l := lengths()
	answers := sessions(l)
	if answers[5] != "error 4\n" || answers[12] != "error 4\n" || answers[4] != "error 3\n" {
		t.Fatalf("%q, %q, %q", answers[5], answers[12], answers[4])
	}
	for _, workers := range []int{1, 2, 5, 16} {
		answered(t, l, workers, answers)
	}
	slices.Reverse(l)
	slices.Reverse(answers)
	for _, workers := range []int{1, 4, 16} {
		answered(t, l, workers, answers)
	}
}

func TestTheSameTextManyTimes(t *testing.T) {
	for _, text := range []string{"", "tick 0\ntick 1\nmany\nlatch\nshow", texts(3)[2]} {
		l := slices.Repeat([]string{text}, 50)
		answered(t, l, 16, slices.Repeat([]string{desk.Session(text)}, 50))
	}
}

func TestTheListIsNotWrittenInto(t *testing.T) {
	whole := texts(30)
	was := slices.Clone(whole)
	for _, workers := range []int{0, 1, 16, 17} {
		many.All(whole[5:20], workers)
		if !slices.Equal(whole, was) {
			t.Fatalf("%d workers wrote into the list, or behind it", workers)
		}
	}
}

func TestWhatComesOutIsTheCallers(t *testing.T) {
	l := texts(10)
	want := sessions(l)
	first, err := many.All(l, 4)
	if err != nil {
		t.Fatal(err)
	}
	second, err := many.All(l, 4)
	if err != nil {
		t.Fatal(err)
	}
	for i := range first {
		first[i] = "mine"
	}
	_ = append(first, "mine")
	if !slices.Equal(second, want) || !slices.Equal(l, texts(10)) {
		t.Errorf("what is written into one answer is in another one, or in the texts")
	}
	// The list is not kept either.
	for i := range l {
		l[i] = "help"
	}
	if !slices.Equal(second, want) {
		t.Errorf("what is written into the texts later on is in the answers")
	}
	answered(t, texts(10), 4, want)
}

func TestManyAtTheSameTime(t *testing.T) {
	l := texts(12)
	want := sessions(l)
	var calls sync.WaitGroup
	for workers := range 16 {
		calls.Go(func() { answered(t, l, workers+1, want) })
	}
	calls.Wait()
}

// When a call answers its workers are through: none stays behind.
func TestNoWorkerStays(t *testing.T) {
	was := runtime.NumGoroutine()
	for i := range 300 {
		many.All(texts(i%3), 16)
		many.All(texts(51), 16)
		many.All(nil, 17)
	}
	// One that is through may be counted for a moment.
	for range 200 {
		if runtime.NumGoroutine() <= was {
			return
		}
		time.Sleep(10 * time.Millisecond)
	}
	t.Errorf("%d goroutines, then %d", was, runtime.NumGoroutine())
}
