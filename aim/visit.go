package aim

import (
	"iter"
	"slices"

	"oche/api"
	"oche/terms"
	"oche/throw"
)

// value is the value of a position, if it is known already.
type value struct {
	visits int
	known  bool
}

// visit is a visit, and the values of its positions by the darts that are still to be thrown and by what is left.
type visit struct {
	table
	start  int
	values [api.Darts + 1][api.MaxAimStart + 1]value
}

// at yields the means of all aims at a position, by the table that is found for rules.
func at(r api.AimRules, s side, p api.AimPosition) iter.Seq2[int, int] {
	// A position needs no numbers of greater scores.
	r.Start = p.Start
	v := visit{table: found(r, s), start: p.Start}
	return v.means(p.Left, p.Darts)
}

// value returns the value of a position.
func (v *visit) value(left, darts int) int {
	// With nothing left the leg is won: the number of 0 is 0.
	if darts == 0 || left == 0 {
		return v.numbers[left]
	}
	found := &v.values[darts][left]
	if !found.known {
		*found = value{v.lowest(left, darts), true}
	}
	return found.visits
}

// lowest returns the least mean of all aims at a position.
func (v *visit) lowest(left, darts int) int {
	lowest := api.AimNever
	for _, mean := range v.means(left, darts) {
		lowest = min(lowest, mean)
	}
	return lowest
}

// means yields the means of all aims at a position, with the numbers of the aims.
func (v *visit) means(left, darts int) iter.Seq2[int, int] {
	return func(yield func(int, int) bool) {
		for i, a := range v.Law.Aims {
			if !yield(i, v.mean(a, left, darts)) {
				return
			}
		}
	}
}

// mean returns the mean of an aim at a position.
func (v *visit) mean(a api.ThrowAim, left, darts int) int {
	values := make([]int, len(a.Beds))
	for i, b := range a.Beds {
		values[i] = v.after(terms.Hit{Bed: b.Bed}, left, darts)
	}
	if slices.Contains(values, api.AimNever) {
		return api.AimNever
	}
	// The law has this aim alone, so that the others are not checked each time.
	mean, _ := throw.Mean(api.ThrowLaw{Den: v.Law.Den, Aims: []api.ThrowAim{a}}, 0, values)
	return v.rounded(mean, v.Law.Den)
}

// after returns the value of what comes after a dart at a position.
func (v *visit) after(h terms.Hit, left, darts int) int {
	if h.Bust(left, v.Out) {
		return v.numbers[v.start]
	}
	return v.value(left-h.Score(), darts-1)
}
