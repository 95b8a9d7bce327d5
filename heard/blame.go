package heard

import (
	"slices"

	"oche/api"
	"oche/terms"
)

// hearing is a leg with reports, while it is found which of them can be right together.
type hearing struct {
	told
	reports []api.HeardReport
}

// rightTogether returns the sets of reports that can all be right in one truth.
func rightTogether(l api.HeardLeg, reports []api.HeardReport) family {
	h := hearing{tell(l), reports}
	var right family
	right.add(none)
	for player := range l.Players {
		right = h.play(player, right)
	}
	return right.parts(len(reports))
}

// play returns which sets of reports can be all that are right of a player's turns and those of the players before, of whom the sets are given.
func (h hearing) play(player int, right family) family {
	now := map[api.HeardStand]family{terms.Begin(h.Count): right}
	for turn := player; turn < h.Turns; turn += h.Players {
		next := map[api.HeardStand]family{}
		for before, sets := range now {
			for v := range h.visits(turn, before) {
				next[v[1]] = next[v[1]].join(sets.with(h.confirmed(turn, v)))
			}
		}
		now = next
	}
	var ended family
	for _, sets := range now {
		ended = ended.join(sets)
	}
	return ended
}

// confirmed returns the reports that are right if a visit is the one of a turn.
func (h hearing) confirmed(turn int, v visit) set {
	s := none
	for i, report := range h.reports {
		if report.Turn == turn && !v.denies(report) {
			s |= 1 << i
		}
	}
	return s
}

// smallest returns, ascending, the sets of so many reports that are wanted and have the least number of elements.
func smallest(reports int, wanted func(set) bool) [][]int {
	var least [][]int
	for s := range all(reports) + 1 {
		if !wanted(s) {
			continue
		}
		numbers := those(reports, s.believes)
		if len(least) > 0 && len(numbers) < len(least[0]) {
			least = nil
		}
		if len(least) == 0 || len(numbers) == len(least[0]) {
			least = append(least, numbers)
		}
	}
	slices.SortFunc(least, slices.Compare)
	return least
}

// those returns, ascending, the numbers of the reports that are believed.
func those(reports int, believed func(report int) bool) []int {
	var numbers []int
	for i := range reports {
		if believed(i) {
			numbers = append(numbers, i)
		}
	}
	return numbers
}
