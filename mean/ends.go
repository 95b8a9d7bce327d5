package mean

import (
	"cmp"
	"maps"
	"slices"

	"oche/api"
	"oche/terms"
)

// end is how many darts a visit has, and how many of them are thrown at a finish.
type end struct{ darts, tried int }

// measure returns a number that is the lower, the nearer this is to an end of a span.
func (e end) measure(which api.MeanEnd) int {
	switch which {
	case api.MeanFewDarts:
		return e.darts
	case api.MeanManyDarts:
		return -e.darts
	case api.MeanFewTried:
		return e.tried
	default:
		return -e.tried
	}
}

// ends is how visits with the same goal can end, with the smallest visit of each end.
type ends map[end]path

// spans returns the least spans that have all ends.
func (l ends) spans() api.MeanVisit {
	v := api.MeanVisit{Darts: terms.NoSpan(), Tried: terms.NoSpan()}
	for e := range l {
		terms.Widen(&v.Darts, e.darts)
		terms.Widen(&v.Tried, e.tried)
	}
	return v
}

// shown returns the visit that is shown for an end of a span: of several ones the one with the fewest darts, and of these the smallest one.
func (l ends) shown(which api.MeanEnd) []api.Bed {
	order := func(a, b end) int {
		x, y := l[a], l[b]
		return cmp.Or(cmp.Compare(a.measure(which), b.measure(which)), cmp.Compare(a.darts, b.darts), slices.Compare(x[:], y[:]))
	}
	e := slices.MinFunc(slices.Collect(maps.Keys(l)), order)
	p := l[e]
	return p[:e.darts]
}
