package perm

import (
	"cmp"
	"slices"
)

// put puts x into a rising list, at its place: false if it is there already.
func put[N cmp.Ordered](l *[]N, x N) bool {
	place, there := slices.BinarySearch(*l, x)
	if !there {
		*l = slices.Insert(*l, place, x)
	}
	return !there
}

// take takes x out of a rising list: false if it is not there.
func take[N cmp.Ordered](l *[]N, x N) bool {
	place, there := slices.BinarySearch(*l, x)
	if there {
		*l = slices.Delete(*l, place, place+1)
	}
	return there
}

// copied answers the list in memory of its own.
func copied[N any](l []N) []N {
	return append([]N(nil), l...)
}

// hasAll tells whether each of the wanted stands in the list.
func hasAll[N comparable](l, wanted []N) bool {
	for _, x := range wanted {
		if !slices.Contains(l, x) {
			return false
		}
	}
	return true
}

// rise tells whether the numbers are from 1 to most and rise, none of them twice.
func rise(l []int, most int) bool {
	for k, n := range l {
		if !isUpTo(n, most) || k > 0 && n <= l[k-1] {
			return false
		}
	}
	return true
}

// isUpTo tells whether n is from 1 to most.
func isUpTo(n, most int) bool {
	return 1 <= n && n <= most
}
