// Package layout: lines that may be.
package layout

import (
	"math/bits"
	"slices"

	"triumvir/api"
)

// Check says whether a layout may be. ErrRange: not 1 to MaxSections sections, 1 to MaxRoutes routes, a Delay from 0 to MaxDelay; ErrArg: a route has no sections, or such as there are not: an At at it; ErrTwice: two have just the same: an At at the second one.
func Check(l api.Layout) (_ error) {
	if !within(l.Sections, 1, api.MaxSections) || !within(len(l.Routes), 1, api.MaxRoutes) || !within(l.Delay, 0, api.MaxDelay) {
		return api.ErrRange
	}
	for i, route := range l.Routes {
		if !within(route, 1, allBits(l.Sections)) {
			return &api.At{Err: api.ErrArg, Place: i}
		}
	}
	// A loop of its own: a wrong route is told ahead of any route that is there twice, wherever the two stand.
	for i, route := range l.Routes {
		if slices.Contains(l.Routes[:i], route) {
			return &api.At{Err: api.ErrTwice, Place: i}
		}
	}
	return nil
}

// Conflicts are, of each route, those that have a section of its, a bit each (itself not). Check's errors.
func Conflicts(l api.Layout) (_ []int, _ error) {
	if err := Check(l); err != nil {
		return nil, err
	}
	conflicts := make([]int, len(l.Routes))
	for i, route := range l.Routes {
		for j, other := range l.Routes {
			if i != j && route&other != 0 {
				conflicts[i] |= 1 << j
			}
		}
	}
	return conflicts, nil
}

// Most is how many routes may be set at once, at most. Check's errors.
func Most(l api.Layout) (_ int, _ error) {
	conflicts, err := Conflicts(l)
	if err != nil {
		return 0, err
	}
	most := 0
	// With at most MaxRoutes routes there are few enough sets of them to try each.
	for set := range 1 << len(conflicts) {
		if apart(set, conflicts) {
			most = max(most, bits.OnesCount(uint(set)))
		}
	}
	return most, nil
}

// Fit is an input without bits of what there is not. Check's errors.
func Fit(l api.Layout, in api.Input) (_ api.Input, _ error) {
	if err := Check(l); err != nil {
		return api.Input{}, err
	}
	return api.Input{
		Clear:  in.Clear & allBits(l.Sections),
		Wanted: in.Wanted & allBits(len(l.Routes)),
	}, nil
}

// apart says whether no two routes of a set have a conflict.
func apart(set int, conflicts []int) bool {
	for i, others := range conflicts {
		if set&(1<<i) != 0 && set&others != 0 {
			return false
		}
	}
	return true
}

// allBits is the set of the first n bits.
func allBits(n int) int { return 1<<n - 1 }

// within says whether n is from least to most.
func within(n, least, most int) bool { return least <= n && n <= most }
