package game

import (
	"cmp"
	"slices"

	"oche/api"
	"oche/terms"
)

// bullNumber is the number of the bull and the eye.
const bullNumber = int(api.Bull) % 100

// law is what differs between the kinds of games.
type law interface {
	// fewest returns how many players there are at least.
	fewest() int
	// valid reports whether the fields that the kind uses are valid, and all others are empty.
	valid() bool
	// take carries out a dart of the player who throws, up to the end of the game, if this dart makes one.
	take(s *stand, h terms.Hit)
	// out reports whether a player has to leave the game.
	out(p api.GamePlayer) bool
	// ended reports whether the game is over after so many complete rounds, at least one.
	ended(rounds int) bool
	// compare returns a number below 0 if a is better than b, and above 0 if b is better.
	compare(a, b api.GamePlayer) int
}

// laws returns the law of each kind of game, by the rules of one.
func laws(r api.GameRules) map[api.GameKind]law {
	u := usual{r}
	return map[api.GameKind]law{
		api.GameRound:    round{u},
		api.GameCricket:  cricket{u},
		api.GameShanghai: shanghai{u},
		api.GameKiller:   killer{u},
	}
}

// usual is what holds in a game unless the law of its kind says otherwise.
type usual struct{ api.GameRules }

func (usual) fewest() int { return 2 }

func (usual) out(api.GamePlayer) bool { return false }

// Kinds without a limit have 0 Rounds, which is no number of complete rounds.
func (u usual) ended(rounds int) bool { return rounds == u.Rounds }

func (usual) compare(a, b api.GamePlayer) int { return cmp.Compare(b.Points, a.Points) }

// zero reports whether all numbers are 0.
func zero(numbers ...int) bool { return terms.Within(0, 0, numbers...) }

// none reports whether no switch is true.
func none(switches ...bool) bool { return !slices.Contains(switches, true) }
