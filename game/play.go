package game

import (
	"slices"

	"oche/api"
	"oche/terms"
)

// stand is how a game stands, and which factors of its number were hit in this visit, in a game that counts them.
type stand struct {
	api.GameState
	factors [api.MaxFactor + 1]bool
}

// over reports whether the game is over.
func (s *stand) over() bool { return len(s.Winners) > 0 }

// win ends the game.
func (s *stand) win(players ...int) { s.Winners = players }

// thrower returns the player who throws.
func (s *stand) thrower() *api.GamePlayer { return &s.Players[s.Player] }

// everyone returns the numbers of all players.
func (s *stand) everyone() []int {
	var l []int
	for player := range len(s.Players) {
		l = append(l, player)
	}
	return l
}

// others yields the numbers of all players but the one who throws, in the order in which they come next.
func (s *stand) others(yield func(int) bool) {
	for step := range len(s.Players) - 1 {
		if !yield((s.Player + 1 + step) % len(s.Players)) {
			return
		}
	}
}

// game is a game while it is played.
type game struct {
	stand
	law
}

// begin returns a game by valid rules before the first dart.
func begin(r api.GameRules) game {
	g := game{law: laws(r)[r.Kind]}
	for range r.Players {
		// Only where points are lives are there Lives.
		g.Players = append(g.Players, api.GamePlayer{Points: r.Lives})
	}
	return g
}

// played returns a game after some darts, or the error of the first wrong one, and its number.
func played(r api.GameRules, darts []api.Bed) (g game, at int, e api.Errno) {
	if e := Check(r); e != api.OK {
		return game{}, 0, e
	}
	if len(darts) > api.MaxGameDarts {
		return game{}, 0, api.ErrLong
	}
	g = begin(r)
	for i, bed := range darts {
		hit := terms.Hit{Bed: bed}
		if !hit.Valid() {
			return game{}, i, api.ErrArg
		}
		if g.over() {
			return game{}, i, api.ErrState
		}
		g = g.after(hit)
	}
	return g, 0, api.OK
}

// running returns a game after some darts which must not be over then.
func running(r api.GameRules, darts []api.Bed) (game, api.Errno) {
	g, _, e := played(r, darts)
	if e != api.OK {
		return game{}, e
	}
	if g.over() {
		return game{}, api.ErrState
	}
	return g, api.OK
}

// after returns the game after one more dart; g itself, from which other darts are tried, stays as it is.
func (g game) after(h terms.Hit) game {
	g.Players = slices.Clone(g.Players)
	g.Darts++
	g.take(&g.stand, h)
	if !g.over() && (g.Darts == api.Darts || g.out(*g.thrower())) {
		g.pass()
	}
	return g
}

// pass lets the next player throw, or ends the game after its rounds.
func (g *game) pass() {
	next, round := g.next(), g.Round
	if next <= g.Player {
		round++
		if g.ended(round) {
			g.win(g.best(g.everyone()...)...)
			return
		}
	}
	g.Round, g.Player, g.Darts = round, next, 0
	g.factors = [api.MaxFactor + 1]bool{}
}

// next returns whose visit is the next one.
func (g *game) next() int {
	for player := range g.others {
		if !g.out(g.Players[player]) {
			return player
		}
	}
	// There is no other one in a game of a single player.
	return g.Player
}

// best returns those of the players whom none of them beats.
func (g *game) best(players ...int) []int {
	beaten := func(player int) bool {
		better := func(other int) bool { return g.compare(g.Players[other], g.Players[player]) < 0 }
		return slices.ContainsFunc(players, better)
	}
	return slices.DeleteFunc(slices.Clone(players), beaten)
}

// ranking returns the players in groups, the best ones first.
func (g *game) ranking() [][]int {
	var groups [][]int
	for rest := g.everyone(); len(rest) > 0; {
		group := g.best(rest...)
		if len(groups) == 0 && g.over() {
			group = g.Winners
		}
		groups = append(groups, group)
		rest = slices.DeleteFunc(rest, func(player int) bool { return slices.Contains(group, player) })
	}
	return groups
}
