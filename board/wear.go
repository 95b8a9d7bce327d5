package board

import (
	"iter"
	"math"
	"slices"

	"oche/api"
	"oche/terms"
)

// Turn returns a board whose ring of numbers is turned by k sectors.
func Turn(b api.Board, k int) (api.Board, api.Errno) {
	if e := Check(b); e != api.OK {
		return api.Board{}, e
	}
	if !terms.Within(0, len(b.Numbers)-1, k) {
		return api.Board{}, api.ErrRange
	}
	b.Rings, b.Lines, b.Numbers = slices.Clone(b.Rings), slices.Clone(b.Lines), turned(b.Numbers, k)
	return b, api.OK
}

// turned returns a ring in which each element has gone on by k places.
func turned[T any](ring []T, k int) []T {
	l := make([]T, len(ring))
	for i, x := range ring {
		l[(i+k)%len(ring)] = x
	}
	return l
}

// Wear returns the wear after a week with a turn of k.
func Wear(b api.Board, worn, week []int, k int) ([]int, api.Errno) {
	if e := Check(b); e != api.OK {
		return nil, e
	}
	if e := wearError(len(b.Numbers), worn, week); e != api.OK {
		return nil, e
	}
	if !terms.Within(0, len(worn)-1, k) {
		return nil, api.ErrRange
	}
	wear := after(worn, week, k)
	if slices.Max(wear) > api.MaxBoardWear {
		return nil, api.ErrFull
	}
	return wear, api.OK
}

// wearError returns the error of wear and weeks, for so many sectors.
func wearError(sectors int, worn []int, weeks ...[]int) api.Errno {
	uneven := func(l []int) bool { return len(l) != sectors }
	if uneven(worn) || slices.ContainsFunc(weeks, uneven) {
		return api.ErrForm
	}
	wrong := func(week []int) bool { return !terms.Within(0, api.MaxBoardHits, week...) }
	if !terms.Within(0, api.MaxBoardWear, worn...) || slices.ContainsFunc(weeks, wrong) {
		return api.ErrArg
	}
	return api.OK
}

// after returns the wear after a week with a turn of k, even if it is too much.
func after(worn, week []int, k int) []int {
	wear := turned(week, k)
	for sector, hits := range worn {
		wear[sector] += hits
	}
	return wear
}

// Best returns the smallest turn with which the greatest wear after a week is least, and this wear.
func Best(b api.Board, worn, week []int) (k, most int, e api.Errno) {
	turns, most, e := Plan(b, worn, [][]int{week})
	if e != api.OK {
		return 0, 0, e
	}
	return turns[0], most, api.OK
}

// Plan returns the smallest list of turns with which the greatest wear after some weeks is least, and this wear.
func Plan(b api.Board, worn []int, weeks [][]int) (turns []int, most int, e api.Errno) {
	if e := Check(b); e != api.OK {
		return nil, 0, e
	}
	if len(weeks) > api.MaxBoardPlan {
		return nil, 0, api.ErrLong
	}
	if e := wearError(len(b.Numbers), worn, weeks...); e != api.OK {
		return nil, 0, e
	}
	turns, wear := evenest(worn, weeks...)
	if slices.Max(wear) > api.MaxBoardWear {
		return nil, 0, api.ErrFull
	}
	return turns, slices.Max(wear), api.OK
}

// evenest returns the smallest list of turns with which the greatest wear after some weeks is least, and the wear of all sectors then.
func evenest(worn []int, weeks ...[]int) (turns, wear []int) {
	least := math.MaxInt
	for plan := range plans(len(weeks), len(worn)) {
		end := worn
		for i, k := range plan {
			end = after(end, weeks[i], k)
		}
		if most := slices.Max(end); most < least {
			least, turns, wear = most, plan, end
		}
	}
	return turns, wear
}

// plans yields all lists of turns for some weeks, the smaller ones first.
func plans(weeks, sectors int) iter.Seq[[]int] {
	return func(yield func([]int) bool) {
		plan := make([]int, weeks)
		for more := true; more; more = advance(plan, sectors) {
			if !yield(slices.Clone(plan)) {
				return
			}
		}
	}
}

// advance changes a plan to the next greater one, and reports whether there is one.
func advance(plan []int, sectors int) bool {
	for week := len(plan) - 1; week >= 0; week-- {
		if plan[week]++; plan[week] < sectors {
			return true
		}
		plan[week] = 0
	}
	return false
}

// Last returns after how many weeks the greatest wear is above limit for the first time, or -1.
func Last(b api.Board, worn, week []int, limit int) (weeks int, e api.Errno) {
	if e := Check(b); e != api.OK {
		return 0, e
	}
	if e := wearError(len(b.Numbers), worn, week); e != api.OK {
		return 0, e
	}
	if !terms.Within(0, api.MaxBoardWear, limit) {
		return 0, api.ErrRange
	}
	for past := range api.MaxBoardWeeks + 1 {
		if slices.Max(worn) > limit {
			return past, api.OK
		}
		_, worn = evenest(worn, week)
	}
	return -1, api.OK
}
