package voter

import (
	"testing"

	"triumvir/api"
)

// Of three no two can be out: behind the first one two are left, and what these commit they say alike. So this is asked from inside.
func TestSpent(t *testing.T) {
	for _, c := range []struct {
		out, cycles int
		want        bool
	}{
		{0, 1, false}, {1, 1, false}, {2, 1, false}, {4, 1, false},
		{3, 1, true}, {5, 1, true}, {6, 1, true}, {7, 1, true},
		{0, api.MaxCycles - 1, false}, {4, api.MaxCycles - 1, false}, {6, api.MaxCycles - 1, true},
		{0, api.MaxCycles, true}, {4, api.MaxCycles, true},
	} {
		if got := spent(c.out, c.cycles); got != c.want {
			t.Errorf("%d out, %d cycles: %v", c.out, c.cycles, got)
		}
	}
}
