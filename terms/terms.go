// Package terms is what several layers share of DOC.md's section Terms: numbers within bounds, beds, gates, and what a dart does to a score; and whether anything is in a list twice.
package terms

import (
	"slices"

	"oche/api"
)

// lowestStart is the lowest start of a leg.
const lowestStart = 2

// Within reports whether all numbers are from low to high.
func Within(low, high int, numbers ...int) bool {
	outside := func(n int) bool { return n < low || n > high }
	return !slices.ContainsFunc(numbers, outside)
}

// ValidGates reports whether each of the gates is one of the three.
func ValidGates(gates ...api.Gate) bool {
	wrong := func(g api.Gate) bool { return g != api.GateAny && g != api.GateDouble && g != api.GateMaster }
	return !slices.ContainsFunc(gates, wrong)
}

// ValidCount reports whether the laws of a leg are valid.
func ValidCount(c api.Count) bool {
	return Within(lowestStart, api.MaxStart, c.Start) && ValidGates(c.In, c.Out)
}

// Distinct reports whether no two elements of a list are the same.
func Distinct[T comparable](l []T) bool {
	seen := map[T]bool{}
	for _, x := range l {
		seen[x] = true
	}
	return len(seen) == len(l)
}
