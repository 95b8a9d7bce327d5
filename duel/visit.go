package duel

import (
	"slices"

	"oche/api"
	"oche/terms"
	"oche/throw"
)

// place is where a visit is: what is left, and how many darts are still to be thrown.
type place struct{ left, darts int }

// visit is a visit of a round, with what was left before it, and the values of its places that are known already.
type visit struct {
	side
	round, start int
	values       map[place]int
}

// means returns the means of all aims at a position, by the table that is found for rules.
func means(r api.DuelRules, p api.DuelPosition, most bool) []int {
	// A position needs no numbers of greater scores, and none of the rounds before it.
	r.Start, r.Ends = p.Start, r.Ends[p.Round:]
	return found(r, most).visit(0, p.Start).means(place{p.Left, p.Darts})
}

// value returns the value of a place; with nothing left the leg is won.
func (v visit) value(p place) int {
	if p.left == 0 {
		return api.Whole
	}
	if p.darts == 0 {
		return v.after(v.round, p.left)
	}
	value, known := v.values[p]
	if !known {
		value = slices.Max(v.means(p))
		v.values[p] = value
	}
	return value
}

// means returns the means of all aims at a place.
func (v visit) means(p place) []int {
	means := make([]int, len(v.Law.Aims))
	for i, a := range v.Law.Aims {
		means[i] = v.mean(a, p)
	}
	return means
}

// mean returns the mean of an aim at a place.
func (v visit) mean(a api.ThrowAim, p place) int {
	values := make([]int, len(a.Beds))
	for i, b := range a.Beds {
		values[i] = v.next(p, terms.Hit{Bed: b.Bed})
	}
	// The law has this aim alone, so that the others are not checked each time.
	sum, _ := throw.Mean(api.ThrowLaw{Den: v.Law.Den, Aims: []api.ThrowAim{a}}, 0, values)
	return v.part(sum, v.Law.Den)
}

// next returns the value of what comes after a dart at a place.
func (v visit) next(p place, h terms.Hit) int {
	if h.Bust(p.left, v.Out) {
		return v.after(v.round, v.start)
	}
	return v.value(place{p.left - h.Score(), p.darts - 1})
}
