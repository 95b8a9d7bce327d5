package team_test

import (
	"math"
	"math/big"
	"math/rand/v2"
	"slices"

	"oche/api"
)

// prime is the prime of seals, and lastKey the greatest key, as the chapter says them.
const (
	prime   = 2147483647
	lastKey = 2147483645
)

// game returns a game.
func game(players, legs, points int) api.TeamGame {
	return api.TeamGame{Players: players, Legs: legs, Points: points}
}

// rules returns rules.
func rules(squad, most, bonus int, games ...api.TeamGame) api.TeamRules {
	return api.TeamRules{Squad: squad, Games: games, Most: most, Bonus: bonus}
}

// example returns the rules of the chapter's examples.
func example() api.TeamRules { return rules(4, 2, 1, game(1, 3, 1), game(1, 3, 1), game(2, 2, 2)) }

// greatest returns rules with as much as there can be of everything.
func greatest() api.TeamRules {
	return rules(16, 20, 99, slices.Repeat([]api.TeamGame{game(1, 15, 99), game(2, 15, 99)}, 10)...)
}

// order returns an order.
func order(key int, players ...[]int) api.TeamOrder {
	return api.TeamOrder{Players: players, Key: key}
}

// seal returns a closed order.
func seal(a int, b ...int) api.TeamSeal { return api.TeamSeal{A: a, B: b} }

// ints returns its arguments.
func ints(numbers ...int) []int { return numbers }

// sheet returns the sheet of a game that was played, and walk that of a walkover.
func sheet(game, home, away int) api.TeamSheet {
	return api.TeamSheet{Game: game, Home: home, Away: away}
}
func walk(game, side int) api.TeamSheet { return api.TeamSheet{Game: game, Walk: side} }

// some returns one of its arguments.
func some[T any](r *rand.Rand, l ...T) T { return l[r.IntN(len(l))] }

// numbers are numbers that no list or limit allows, or only just.
func numbers() []int {
	return ints(math.MinInt, math.MinInt+1, -prime, -501, -100, -2, -1, 0, 1, 2, 3, 4, 12, 13, 15, 16, 17, 20, 21, 64, 65, 99, 100, 200, 201, 1001, 1002, 48271, lastKey-1, lastKey, lastKey+1, prime, prime+1, 2*prime, math.MaxInt/2, math.MaxInt-1, math.MaxInt)
}

// clone returns rules with a list of their own.
func clone(r api.TeamRules) api.TeamRules {
	r.Games = slices.Clone(r.Games)
	return r
}

// copied returns lists of lists that are new.
func copied(l [][]int) [][]int {
	var all [][]int
	for _, x := range l {
		all = append(all, slices.Clone(x))
	}
	return all
}

// sameLists compares lists of lists.
func sameLists(a, b [][]int) bool { return slices.EqualFunc(a, b, slices.Equal[[]int]) }

// sameOrder compares orders, sameSeal seals, and sameResult nights.
func sameOrder(a, b api.TeamOrder) bool { return a.Key == b.Key && sameLists(a.Players, b.Players) }
func sameSeal(a, b api.TeamSeal) bool   { return a.A == b.A && slices.Equal(a.B, b.B) }
func sameResult(a, b api.TeamResult) bool {
	return a.Points == b.Points && a.Games == b.Games && a.Legs == b.Legs && slices.Equal(a.Open, b.Open) && a.Winner == b.Winner
}

// powerOf returns a power modulo the prime.
func powerOf(x int, exponent *big.Int) *big.Int {
	return new(big.Int).Exp(big.NewInt(int64(x)), exponent, big.NewInt(prime))
}

// sealByText returns the seal of an order, by the text of the chapter's numbers of seals.
func sealByText(o api.TeamOrder) api.TeamSeal {
	k := big.NewInt(int64(o.Key))
	s := api.TeamSeal{A: int(powerOf(7, k).Int64())}
	for i, players := range o.Players {
		code := players[0] + 1
		if len(players) == 2 {
			code = 16*players[1] + players[0] + 1
		}
		b := powerOf(48271, new(big.Int).Mul(k, big.NewInt(int64(i+1))))
		b.Mul(b, big.NewInt(int64(code)))
		s.B = append(s.B, int(b.Mod(b, big.NewInt(prime)).Int64()))
	}
	return s
}

// lists returns all lists that an order can have for a game, but for how many games a player is in.
func lists(squad, players int) [][]int {
	var all [][]int
	for a := range squad {
		if players == 1 {
			all = append(all, ints(a))
			continue
		}
		for b := a + 1; b < squad; b++ {
			all = append(all, ints(a, b))
		}
	}
	return all
}

// validByText reports whether an order is valid for rules, by the text.
func validByText(r api.TeamRules, o api.TeamOrder) bool {
	if len(o.Players) != len(r.Games) || o.Key < 0 || o.Key > lastKey {
		return false
	}
	for i, players := range o.Players {
		if !slices.ContainsFunc(lists(r.Squad, r.Games[i].Players), func(l []int) bool { return slices.Equal(l, players) }) {
			return false
		}
	}
	for p := range r.Squad {
		in := 0
		for _, players := range o.Players {
			if slices.Contains(players, p) {
				in++
			}
		}
		if in > r.Most {
			return false
		}
	}
	return true
}

// ordersByText returns all orders for rules with a key.
func ordersByText(r api.TeamRules, key int) []api.TeamOrder {
	all := []api.TeamOrder{{Key: key}}
	for _, g := range r.Games {
		var longer []api.TeamOrder
		for _, o := range all {
			for _, players := range lists(r.Squad, g.Players) {
				longer = append(longer, order(key, append(slices.Clip(o.Players), players)...))
			}
		}
		all = longer
	}
	return slices.DeleteFunc(all, func(o api.TeamOrder) bool { return !validByText(r, o) })
}

// ways returns all lists of the numbers from 0 to players - 1, the smaller ones first.
func ways(players int) [][]int {
	all := [][]int{nil}
	for range players {
		var longer [][]int
		for _, l := range all {
			for p := range players {
				if !slices.Contains(l, p) {
					longer = append(longer, append(slices.Clip(l), p))
				}
			}
		}
		all = longer
	}
	return all
}

// legsByText returns the legs of both sides by a valid sheet.
func legsByText(r api.TeamRules, s api.TeamSheet) [2]int {
	switch s.Walk {
	case 1:
		return [2]int{r.Games[s.Game].Legs, 0}
	case 2:
		return [2]int{0, r.Games[s.Game].Legs}
	}
	return [2]int{s.Home, s.Away}
}

// wonByText returns who has won a night by points and legs, or 2.
func wonByText(points, legs [2]int) int {
	for side := range 2 {
		if other := 1 - side; points[side] > points[other] || points[side] == points[other] && legs[side] > legs[other] {
			return side
		}
	}
	return 2
}

// endsByText returns who wins, or 2, for each way to end the open games that are left, from points and legs on.
func endsByText(r api.TeamRules, open []int, points, legs [2]int) map[int]bool {
	if len(open) == 0 {
		return map[int]bool{wonByText(points, legs): true}
	}
	found := map[int]bool{}
	g := r.Games[open[0]]
	for side := range 2 {
		for fewer := range g.Legs {
			p, l := points, legs
			p[side] += g.Points
			l[side] += g.Legs
			l[1-side] += fewer
			for winner := range endsByText(r, open[1:], p, l) {
				found[winner] = true
			}
		}
	}
	return found
}

// nightByText returns what Night should return for valid sheets, by the text of P10.6 and P10.7.
func nightByText(r api.TeamRules, l []api.TeamSheet) api.TeamResult {
	var x api.TeamResult
	for i, g := range r.Games {
		at := slices.IndexFunc(l, func(s api.TeamSheet) bool { return s.Game == i })
		if at < 0 {
			x.Open = append(x.Open, i)
			continue
		}
		legs := legsByText(r, l[at])
		for side := range 2 {
			x.Legs[side] += legs[side]
			if legs[side] == g.Legs {
				x.Games[side]++
				x.Points[side] += g.Points
			}
		}
	}
	ends := endsByText(r, x.Open, x.Points, x.Legs)
	x.Winner = -1
	for winner := range ends {
		if len(ends) == 1 {
			x.Winner = winner
		}
	}
	if len(x.Open) == 0 && x.Winner < 2 {
		x.Points[x.Winner] += r.Bonus
	}
	return x
}

// validSheetByText reports whether a sheet is valid, by the text of P10.6.
func validSheetByText(r api.TeamRules, s api.TeamSheet) bool {
	if s.Game < 0 || s.Game >= len(r.Games) {
		return false
	}
	legs := r.Games[s.Game].Legs
	switch s.Walk {
	case 0:
		homeWins := s.Home == legs && s.Away >= 0 && s.Away < legs
		awayWins := s.Away == legs && s.Home >= 0 && s.Home < legs
		return homeWins || awayWins
	case 1, 2:
		return s.Home == 0 && s.Away == 0
	}
	return false
}

// randomRules returns valid rules with so many games at most, whose legs and points are few, so that nights are often close.
func randomRules(r *rand.Rand, games, legs, points int) api.TeamRules {
	l := rules(1+r.IntN(16), 1+r.IntN(20), r.IntN(100))
	if r.IntN(2) == 0 {
		l.Squad = 1 + r.IntN(5)
	}
	for range 1 + r.IntN(games) {
		l.Games = append(l.Games, game(min(l.Squad, 1+r.IntN(2)), 1+r.IntN(legs), r.IntN(points+1)))
	}
	return l
}

// randomKey returns a key, often one near the bounds.
func randomKey(r *rand.Rand) int { return some(r, r.IntN(lastKey+1), r.IntN(4), lastKey-r.IntN(4)) }

// randomOrder returns a list for each game, which is not valid if a player is in too many games.
func randomOrder(r *rand.Rand, l api.TeamRules) api.TeamOrder {
	o := order(randomKey(r))
	for _, g := range l.Games {
		o.Players = append(o.Players, some(r, lists(l.Squad, g.Players)...))
	}
	return o
}

// randomSheet returns a valid sheet of a game.
func randomSheet(r *rand.Rand, l api.TeamRules, i int) api.TeamSheet {
	legs := l.Games[i].Legs
	fewer := r.IntN(legs)
	return some(r, sheet(i, legs, fewer), sheet(i, fewer, legs), sheet(i, legs, fewer), sheet(i, fewer, legs), walk(i, 1), walk(i, 2))
}

// randomNight returns valid sheets of some games, or of all of them, in any order.
func randomNight(r *rand.Rand, l api.TeamRules) []api.TeamSheet {
	var sheets []api.TeamSheet
	for _, i := range r.Perm(len(l.Games))[:some(r, len(l.Games), r.IntN(len(l.Games)+1))] {
		sheets = append(sheets, randomSheet(r, l, i))
	}
	return sheets
}
