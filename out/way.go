package out

import (
	"iter"
	"slices"

	"oche/api"
)

// noWay is what fewest has for a score that no darts can end.
const noWay = -1

// tallied is rules, and how many lists of beds end each score: lists[d][s] of them have just d beds and end s.
type tallied struct {
	api.OutRules
	lists [][]int
}

// tally counts the lists of beds that end scores, for all scores up to most and all numbers of darts, also for none.
func tally(r api.OutRules, most int) tallied {
	over := make([]int, most+1)
	over[0] = 1
	t := tallied{r, [][]int{over}}
	for fewer := range r.Darts {
		lists := make([]int, most+1)
		for score := range most + 1 {
			for hit := range throws(r, score) {
				lists[score] += t.lists[fewer][hit.left()]
			}
		}
		t.lists = append(t.lists, lists)
	}
	return t
}

// number returns how many ways out from a score that was tallied there are.
func (t tallied) number(score int) int {
	sum := 0
	for _, lists := range t.lists {
		sum += lists[score]
	}
	return sum
}

// ways yields all ways out from a score that was tallied, the smaller ones first.
func (t tallied) ways(score int) iter.Seq[[]api.Bed] {
	return func(yield func([]api.Bed) bool) {
		for fewer := range t.Darts {
			if !t.extend(nil, score, fewer+1, yield) {
				return
			}
		}
	}
}

// extend yields, in order, the ways that begin with some beds and go on with just so many darts, from what is left by then, and reports whether more are wanted.
func (t tallied) extend(begun []api.Bed, left, darts int, yield func([]api.Bed) bool) bool {
	if darts == 0 {
		return yield(slices.Clone(begun))
	}
	for hit := range throws(t.OutRules, left) {
		if t.lists[darts-1][hit.left()] > 0 && !t.extend(append(begun, hit.Bed), hit.left(), darts-1, yield) {
			return false
		}
	}
	return true
}

// fewest returns how many beds the smallest way out from each score up to most has, with any number of darts, or noWay.
func fewest(r api.OutRules, most int) []int {
	few := slices.Repeat([]int{noWay}, most+1)
	few[0] = 0
	for score := range most + 1 {
		for hit := range throws(r, score) {
			rest := few[hit.left()]
			if rest != noWay && (few[score] == noWay || rest+1 < few[score]) {
				few[score] = rest + 1
			}
		}
	}
	return few
}

// bogey reports whether so many darts do not end a score, of which fewest is given.
func bogey(fewest, darts int) bool { return fewest == noWay || fewest > darts }

// closed reports whether the score 0 has false, and no throw leads from a score that has true to one that has false.
func closed(r api.OutRules, never []bool) bool {
	for score, claimed := range never {
		if !claimed {
			continue
		}
		if score == 0 {
			return false
		}
		for hit := range throws(r, score) {
			if !never[hit.left()] {
				return false
			}
		}
	}
	return true
}
