package throw

import (
	"iter"
	"slices"

	"oche/api"
	"oche/terms"
)

// darts is the darts of a visit: the numbers of the beds in which they have landed.
type darts [api.Darts]int

// fits returns the error of an aim, and of so many visits.
func (c chances) fits(visits int) api.Errno {
	switch {
	case len(c.Beds) > api.MaxThrowBeds:
		return api.ErrLong
	case !c.placed():
		return api.ErrArg
	case visits == 0:
		return api.ErrNone
	case visits > api.MaxThrowVisits:
		return api.ErrLong
	default:
		return api.OK
	}
}

// spans returns how many darts of a visit have landed in each bed, at least and at most.
func (c chances) spans(v api.ThrowVisit) ([]api.ThrowBed, api.Errno) {
	known := len(v.Darts) > 0
	if known && (len(v.Darts) != api.Darts || v.Total != 0) {
		return nil, api.ErrForm
	}
	if !terms.Within(0, api.MaxThrowTotal, v.Total) {
		return nil, api.ErrRange
	}
	spans := c.nothing().Beds
	for i := range spans {
		spans[i].Chance = terms.NoSpan()
	}
	found := false
	for d := range c.truths(v) {
		found = true
		for i := range spans {
			terms.Widen(&spans[i].Chance, d.in(i))
		}
	}
	if !found {
		return nil, api.ErrState
	}
	return spans, api.OK
}

// in returns how many of the darts have landed in a bed.
func (d darts) in(bed int) int {
	number := 0
	for _, landed := range d {
		if landed == bed {
			number++
		}
	}
	return number
}

// truths yields what the darts of a visit can be.
func (c chances) truths(v api.ThrowVisit) iter.Seq[darts] {
	if len(v.Darts) > 0 {
		return c.known(v.Darts)
	}
	return c.totalled(v.Total)
}

// known yields three darts that are known, if they have landed in the beds.
func (c chances) known(beds []api.Bed) iter.Seq[darts] {
	return func(yield func(darts) bool) {
		var d darts
		possible := slices.Collect(c.beds())
		for i, bed := range beds {
			d[i] = slices.Index(possible, bed)
			if d[i] < 0 {
				return
			}
		}
		yield(d)
	}
}

// totalled yields all darts whose scores have a sum, those in the same beds once: their order does not matter.
func (c chances) totalled(total int) iter.Seq[darts] {
	return func(yield func(darts) bool) {
		scores := c.scores()
		for i, first := range scores {
			for j, second := range scores[:i+1] {
				for k, third := range scores[:j+1] {
					if first+second+third == total && !yield(darts{i, j, k}) {
						return
					}
				}
			}
		}
	}
}
