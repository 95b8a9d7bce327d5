package leg

import (
	"maps"
	"slices"

	"oche/api"
	"oche/terms"
)

// leg is a leg while it is played; ended is with how many darts of their visit players have ended.
type leg struct {
	api.LegRules
	api.LegState
	ended map[int]int
}

// begin returns a leg before the first visit.
func begin(r api.LegRules) *leg {
	g := &leg{LegRules: r, ended: map[int]int{}}
	g.Next = r.First
	g.Darts = make([]int, len(r.Counts))
	for _, c := range r.Counts {
		s := terms.Begin(c)
		g.Left = append(g.Left, s.Left)
		g.In = append(g.In, s.In)
	}
	return g
}

// take carries out a visit, or returns its error and the number of the bed with which it was found.
func (g *leg) take(v api.LegVisit) (dart int, e api.Errno) {
	p := v.Player
	if g.Over {
		return noDart, api.ErrOver
	}
	if !terms.Within(0, len(g.Counts)-1, p) {
		return noDart, api.ErrArg
	}
	if p != g.Next {
		return noDart, api.ErrTurn
	}
	t, dart, e := thrown(g.Counts[p], g.In[p], g.Left[p], v.Beds)
	if e != api.OK {
		return dart, e
	}
	g.Left[p], g.In[p] = t.Left, t.In
	g.Darts[p] += t.Darts
	if t.Won {
		g.ended[p] = t.Darts
	}
	g.pass()
	return noDart, api.OK
}

// pass lets the next player throw, or ends the leg.
func (g *leg) pass() {
	g.Next = (g.Next + 1) % len(g.Counts)
	complete := g.Next == g.First
	if complete {
		g.Round++
	}
	won := len(g.ended) > 0 && (complete || !g.Equal)
	// Without a limit Rounds is 0, which no number of complete rounds is.
	if won || complete && g.Round == g.Rounds {
		g.Over, g.Next, g.Winners = true, nobody, g.winners()
	}
}

// winners returns, ascending, who has won a leg that is over.
func (g *leg) winners() []int {
	if len(g.ended) > 0 {
		return least(g.ended)
	}
	left := map[int]int{}
	for player := range len(g.Counts) {
		left[player] = g.Left[player]
	}
	return least(left)
}

// least returns, ascending, the players who have the least number.
func least(numbers map[int]int) []int {
	fewest := slices.Min(slices.Collect(maps.Values(numbers)))
	var players []int
	for player, n := range numbers {
		if n == fewest {
			players = append(players, player)
		}
	}
	slices.Sort(players)
	return players
}
