package game

import (
	"slices"

	"oche/api"
	"oche/terms"
)

// highest is the greatest bed.
const highest = api.Bed(100*api.MaxFactor + api.MaxNumber)

// soonest returns the shortest lists of beds, which are given in ascending order, with which the next player wins in this visit.
func (g *game) soonest(beds []api.Bed) [][]api.Bed {
	for fewer := range api.Darts - g.Darts {
		if ways := g.wins(g.Player, beds, fewer+1); len(ways) > 0 {
			return ways
		}
	}
	return nil
}

// wins returns the lists of just so many beds with which a player, who throws, ends the game in this visit and is among the winners.
func (g *game) wins(player int, beds []api.Bed, darts int) [][]api.Bed {
	if darts == 0 && slices.Contains(g.Winners, player) {
		return [][]api.Bed{nil}
	}
	// Whoever gets out has fewer darts than a visit can have.
	if darts == 0 || g.over() || g.Player != player {
		return nil
	}
	var ways [][]api.Bed
	for _, bed := range beds {
		x := g.after(terms.Hit{Bed: bed})
		for _, rest := range x.wins(player, beds, darts-1) {
			ways = append(ways, append([]api.Bed{bed}, rest...))
		}
	}
	return ways
}

// useful returns the beds that do something as the next dart.
func (g *game) useful() []api.Bed {
	missed := g.after(terms.Hit{Bed: api.Miss})
	matters := func(h terms.Hit) bool {
		x := g.after(h)
		return !slices.Equal(x.Players, missed.Players) || !slices.Equal(x.Winners, missed.Winners)
	}
	var beds []api.Bed
	for bed := range highest + 1 {
		if h := (terms.Hit{Bed: bed}); h.Valid() && matters(h) {
			beds = append(beds, bed)
		}
	}
	return beds
}
