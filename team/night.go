package team

import (
	"cmp"

	"oche/api"
	"oche/terms"
)

// Both sides, and what there can be in place of a winner.
const (
	home      = 0
	away      = 1
	draw      = 2
	uncertain = -1
)

// How a game ends, by its sheet: it is played, or one of the sides has it as a walkover.
const (
	played   = 0
	homeWalk = 1
	awayWalk = 2
)

// night is a night with its sheets by the numbers of their games.
type night struct {
	api.TeamRules
	api.TeamResult
	sheets map[int]api.TeamSheet
}

// take takes a sheet.
func (n *night) take(s api.TeamSheet) api.Errno {
	if !n.valid(s) {
		return api.ErrArg
	}
	if before, there := n.sheets[s.Game]; there && before != s {
		return api.ErrTwice
	}
	n.sheets[s.Game] = s
	return api.OK
}

// valid reports whether a sheet is valid.
func (n *night) valid(s api.TeamSheet) bool {
	if !terms.Within(0, len(n.TeamRules.Games)-1, s.Game) {
		return false
	}
	switch s.Walk {
	case played:
		legs := n.TeamRules.Games[s.Game].Legs
		return max(s.Home, s.Away) == legs && terms.Within(0, legs-1, min(s.Home, s.Away))
	case homeWalk, awayWalk:
		return s.Home == 0 && s.Away == 0
	}
	return false
}

// count finds the result from the sheets.
func (n *night) count() {
	for game, s := range n.sheets {
		n.add(game, n.legs(s))
	}
	for game := range n.TeamRules.Games {
		if _, there := n.sheets[game]; !there {
			n.Open = append(n.Open, game)
		}
	}
	n.Winner = n.winner()
	if len(n.Open) == 0 && n.Winner != draw {
		n.Points[n.Winner] += n.Bonus
	}
}

// legs returns the legs of both sides in a game with a sheet.
func (n *night) legs(s api.TeamSheet) [2]int {
	switch s.Walk {
	case homeWalk:
		return n.walkover(s.Game, home)
	case awayWalk:
		return n.walkover(s.Game, away)
	}
	return [2]int{s.Home, s.Away}
}

// walkover returns the legs of a game that a side has won without losing one.
func (n *night) walkover(game, side int) [2]int {
	var legs [2]int
	legs[side] = n.TeamRules.Games[game].Legs
	return legs
}

// add adds a game that is over.
func (n *night) add(game int, legs [2]int) {
	side := home
	if legs[away] > legs[home] {
		side = away
	}
	n.Points[side] += n.TeamRules.Games[game].Points
	n.TeamResult.Games[side]++
	n.Legs[home] += legs[home]
	n.Legs[away] += legs[away]
}

// winner returns who wins the night, if that is certain.
func (n *night) winner() int {
	// Nothing is better for a side than to win all open games and lose no leg in them: all else lies between these two ends. With a game open they are not both a draw, as its legs differ.
	one, other := n.ended(home), n.ended(away)
	if one != other {
		return uncertain
	}
	return one
}

// ended returns who wins the night, or that it is a draw, if a side has all open games as walkovers.
func (n *night) ended(side int) int {
	end := *n
	for _, game := range n.Open {
		end.add(game, n.walkover(game, side))
	}
	switch cmp.Or(cmp.Compare(end.Points[home], end.Points[away]), cmp.Compare(end.Legs[home], end.Legs[away])) {
	case 1:
		return home
	case -1:
		return away
	}
	return draw
}
