package desk

import (
	"testing"

	"triumvir/api"
	"triumvir/frame"
)

// No line lets a replica say what it would not say by itself, so that one is out can be brought about from inside alone.
func TestShowTellsWhoIsOut(t *testing.T) {
	for _, odd := range []int{0, 1, 2} {
		d := newDesk()
		b, err := frame.Encode(frame.Frame{Kind: frame.Vote, From: odd, In: api.Input{Clear: 15, Wanted: 5}, Out: 4})
		if err != nil {
			t.Fatal(err)
		}
		for k := range api.Replicas {
			d.see([]int{k, 15, 5})
			d.tick([]int{k})
		}
		for range 6 {
			d.deliver([]int{0})
		}
		if err := d.system.Says(odd, api.Voter, b); err != nil {
			t.Fatal(err)
		}
		d.deliver([]int{0})
		for k := range api.Replicas {
			if k != odd {
				d.tick([]int{k})
			}
		}
		for range 6 {
			d.deliver([]int{0})
		}
		if got, want := d.answer("show"), "1 "+spaced(1<<odd)+" false"; got != want {
			t.Errorf("%q, not %q", got, want)
		}
		if got := d.answer("trace"); got != "15 5 1" {
			t.Errorf("%q is committed", got)
		}
	}
}
