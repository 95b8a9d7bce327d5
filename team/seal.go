package team

import (
	"slices"

	"oche/api"
	"oche/terms"
)

// codeBase is what the numbers of players are digits of in a code.
const codeBase = 16

// validOrder reports whether an order is valid for valid rules.
func validOrder(r api.TeamRules, o api.TeamOrder) bool {
	if len(o.Players) != len(r.Games) || !terms.Within(0, api.MaxKey, o.Key) {
		return false
	}
	games := map[int]int{} // in how many of them each player is
	for i, players := range o.Players {
		if len(players) != r.Games[i].Players || !terms.Within(0, r.Squad-1, players...) || !slices.IsSorted(players) || !terms.Distinct(players) {
			return false
		}
		for _, p := range players {
			games[p]++
			if games[p] > r.Most {
				return false
			}
		}
	}
	return true
}

// times returns the product of numbers that are not below 0, modulo TeamPrime.
func times(numbers ...int) int {
	product := 1
	for _, n := range numbers {
		product = product * n % api.TeamPrime
	}
	return product
}

// power returns a power whose exponent is not below 0, modulo TeamPrime.
func power(x, exponent int) int {
	result := 1
	for ; exponent > 0; exponent /= 2 {
		if exponent%2 == 1 {
			result = times(result, x)
		}
		x = times(x, x)
	}
	return result
}

// lock returns the exponent with which a key closes the code of a game.
func lock(key, game int) int { return key * (game + 1) }

// unlock returns the exponent that undoes lock: by all but one of a prime, each power is 1.
func unlock(key, game int) int {
	const around = api.TeamPrime - 1
	return around - lock(key, game)%around
}

// code returns the code of a game with these players.
func code(players ...int) int {
	c := 0
	for _, p := range slices.Backward(players) {
		c = c*codeBase + p
	}
	return c + 1
}

// named returns so many players whose game has a code, if there are any.
func named(c, players int) ([]int, bool) {
	var l []int
	rest := c - 1
	for range players {
		l = append(l, rest%codeBase)
		rest /= codeBase
	}
	return l, rest == 0
}
