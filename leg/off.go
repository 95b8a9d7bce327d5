package leg

import (
	"slices"

	"oche/api"
	"oche/terms"
)

// everyone returns the numbers of so many players.
func everyone(players int) []int {
	var l []int
	for player := range players {
		l = append(l, player)
	}
	return l
}

// wrongOff reports whether a dart at the bull is not valid.
func wrongOff(d api.LegOff) bool {
	return !terms.Hit{Bed: d.Bed}.Valid() || !terms.Within(0, api.MaxFar, d.Far)
}

// nearest returns which of the players, who have thrown a dart each, have a best one.
func nearest(players []int, darts []api.LegOff) []int {
	far := map[int]int{}
	for i, player := range players {
		far[player] = distance(darts[i])
	}
	return least(far)
}

// distance returns a number that is less the better a dart at the bull is: below 0 for the best beds, wherever in them the dart is.
func distance(d api.LegOff) int {
	best := [...]api.Bed{api.Eye, api.Bull}
	if i := slices.Index(best[:], d.Bed); i >= 0 {
		return i - len(best)
	}
	if d.Bed == api.Miss {
		return api.MaxFar + 1
	}
	return d.Far
}
