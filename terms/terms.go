// Package terms is what several layers share of DOC.md's section Terms: numbers within bounds, spans, beds, gates, starts, stands, and what a dart does to a stand; which positions a visit can come to; and whether anything is in a list twice.
package terms

import (
	"iter"
	"slices"

	"oche/api"
)

// LowestStart is the lowest start of a leg.
const LowestStart = 2

// Within reports whether all numbers are from low to high.
func Within(low, high int, numbers ...int) bool {
	outside := func(n int) bool { return n < low || n > high }
	return !slices.ContainsFunc(numbers, outside)
}

// ValidGates reports whether each of the gates is one of the three.
func ValidGates(gates ...api.Gate) bool {
	wrong := func(g api.Gate) bool { return g != api.GateAny && g != api.GateDouble && g != api.GateMaster }
	return !slices.ContainsFunc(gates, wrong)
}

// ValidCount reports whether the laws of a leg are valid.
func ValidCount(c api.Count) bool {
	return Within(LowestStart, api.MaxStart, c.Start) && ValidGates(c.In, c.Out)
}

// Ascending reports whether all that is yielded are beds or misses, each greater than the one before.
func Ascending(beds iter.Seq[api.Bed]) bool {
	last := api.Miss - 1
	for bed := range beds {
		if bed <= last || !(Hit{Bed: bed}).Valid() {
			return false
		}
		last = bed
	}
	return true
}

// ValidBeds reports whether a list has from 1 to most beds, each greater than the one before, and no miss.
func ValidBeds(beds []api.Bed, most int) bool {
	return Within(1, most, len(beds)) && !slices.Contains(beds, api.Miss) && Ascending(slices.Values(beds))
}

// Distinct reports whether no two elements of a list are the same.
func Distinct[T comparable](l []T) bool {
	seen := map[T]bool{}
	for _, x := range l {
		seen[x] = true
	}
	return len(seen) == len(l)
}
