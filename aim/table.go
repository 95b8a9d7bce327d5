package aim

import (
	"slices"

	"oche/api"
	"oche/terms"
)

// side is what the numbers of a table say: that so many visits are enough, or, if least is set, that nobody comes below them.
type side struct{ least bool }

// allows reports whether all numbers can be given for scores.
func (s side) allows(numbers ...int) bool {
	wrong := func(n int) bool {
		return !terms.Within(0, api.MaxAimValue, n) && (s.least || n != api.AimNever)
	}
	return !slices.ContainsFunc(numbers, wrong)
}

// holds reports whether the inequality holds between a number and what the visits need by it.
func (s side) holds(number, needs int) bool {
	if s.least {
		return needs >= number
	}
	return needs <= number || number == api.AimNever
}

// rounded returns what a mean of so many darts is for one, so that what the table says stays true.
func (s side) rounded(mean api.Span, den int) int {
	if s.least {
		return mean.Low / den
	}
	return (mean.High + den - 1) / den
}

// table is the numbers of the scores, by rules whose law has only beds in which a dart can land.
type table struct {
	api.AimRules
	side
	numbers []int
}

// given returns a table that somebody gives.
func given(r api.AimRules, s side, numbers []int) table {
	r.Law = landing(r.Law)
	return table{r, s, numbers}
}

// found returns the table that is found for rules.
func found(r api.AimRules, s side) table {
	t := given(r, s, make([]int, r.Start+1))
	for score := range t.scores {
		t.numbers[score] = t.find(score)
	}
	return t
}

// scores yields the scores that can be left, in ascending order.
func (t table) scores(yield func(int) bool) {
	for score := terms.Lowest(t.Out); score <= t.Start; score++ {
		if !yield(score) {
			return
		}
	}
}

// needs returns how many visits a score needs by the table: this one, and what comes after it.
func (t table) needs(score int) int {
	v := visit{table: t, start: score}
	return api.Whole + v.value(score, api.Darts)
}

// find returns the number of a score, by those of the smaller ones.
func (t table) find(score int) int {
	if t.least {
		return t.greatest(score)
	}
	return t.enough(score)
}

// enough returns the least number of a score that is enough, or AimNever.
func (t table) enough(score int) int {
	low, high := api.Whole, api.MaxAimValue+1
	for low < high {
		number := (low + high) / 2
		t.numbers[score] = number
		// What is needed grows by at most one where the number does: if it is more than the number, nothing below it is enough, otherwise it is enough itself.
		if needs := t.needs(score); needs > number {
			low = needs
		} else {
			high = needs
		}
	}
	if low > api.MaxAimValue {
		return api.AimNever
	}
	return low
}

// greatest returns the greatest number of a score below which nobody comes.
func (t table) greatest(score int) int {
	low, high := 0, api.MaxAimValue
	for low < high {
		number := (low + high + 1) / 2
		t.numbers[score] = number
		// What is needed grows by at most one where the number does: if it is less than the number, nothing above it holds, otherwise it holds itself.
		if needs := t.needs(score); needs < number {
			high = needs
		} else {
			low = needs
		}
	}
	return min(low, api.MaxAimValue)
}
