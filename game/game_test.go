package game_test

import (
	"math"
	"slices"
	"testing"

	"oche/api"
	"oche/game"
)

// ofEachKind returns valid rules.
func ofEachKind() []api.GameRules {
	return []api.GameRules{round(2, 5, true, true), cricket(2, 5, true), shanghai(2, 5), killer(3, true, 5, 9)}
}

// changed returns rules after a change.
func changed(r api.GameRules, change func(*api.GameRules)) api.GameRules {
	change(&r)
	return r
}

// P4.1: rules that are valid.
func TestCheck(t *testing.T) {
	for i, r := range append(ofEachKind(),
		round(1, 1, false, false), round(8, 20, true, true), round(2, 7, true, false), round(3, 12, false, true),
		cricket(2, 1, false), cricket(8, 20, true), shanghai(2, 1), shanghai(8, 20), changed(shanghai(3, 7), func(r *api.GameRules) { r.Numbers = []int{} }),
		killer(1, false, 20, 1), killer(9, true, 8, 7, 6, 5, 4, 3, 2, 1),
	) {
		if e := game.Check(r); e != api.OK {
			t.Error(i, r, e)
		}
	}
}

// wrongRules returns rules with ErrArg.
func wrongRules() []api.GameRules {
	l := []api.GameRules{
		{}, cricket(1, 5, false), shanghai(1, 5), killer(1, true, 5), killer(1, true),
		round(1, 0, true, false), round(1, 21, false, false), round(1, -1, true, true), round(1, math.MaxInt, false, false), round(1, math.MinInt, false, false),
		cricket(2, 0, false), cricket(2, 21, false), cricket(2, -1, true), cricket(2, math.MaxInt, true), shanghai(2, 0), shanghai(2, 21), shanghai(2, -1), shanghai(2, math.MinInt),
		killer(0, true, 5, 9), killer(10, true, 5, 9), killer(-1, true, 5, 9), killer(math.MaxInt, true, 5, 9),
		killer(1, true, 5, 0), killer(1, true, 21, 5), killer(1, true, 5, 25), killer(1, true, -5, 5), killer(1, true, math.MinInt, math.MaxInt), killer(1, true, 5, 9, 5), killer(1, true, 5, 5),
		changed(killer(1, true, 5, 9), func(r *api.GameRules) { r.Players = 3 }), changed(killer(1, true, 5, 9, 7), func(r *api.GameRules) { r.Players = 2 }), changed(killer(1, true, 5, 9), func(r *api.GameRules) { r.Numbers = nil }),
	}
	for _, r := range ofEachKind() {
		for _, n := range []int{math.MinInt, -2, -1, 0, 9, 10, math.MaxInt} {
			l = append(l, changed(r, func(r *api.GameRules) { r.Players = n }))
		}
		for _, kind := range []api.GameKind{math.MinInt, -1, 0, 5, 6, math.MaxInt} {
			l = append(l, changed(r, func(r *api.GameRules) { r.Kind = kind }))
		}
		for _, field := range []struct {
			used []api.GameKind
			set  func(*api.GameRules)
		}{
			{[]api.GameKind{api.GameRound}, func(r *api.GameRules) { r.Last = 5 }}, {nil, func(r *api.GameRules) { r.Last = -5 }},
			{[]api.GameKind{api.GameRound}, func(r *api.GameRules) { r.Bull = true }}, {[]api.GameKind{api.GameRound}, func(r *api.GameRules) { r.Jump = true }},
			{[]api.GameKind{api.GameCricket, api.GameShanghai}, func(r *api.GameRules) { r.Rounds = 5 }}, {nil, func(r *api.GameRules) { r.Rounds = -5 }},
			{[]api.GameKind{api.GameCricket}, func(r *api.GameRules) { r.Cut = true }},
			{[]api.GameKind{api.GameKiller}, func(r *api.GameRules) { r.Numbers = []int{5, 9} }}, {nil, func(r *api.GameRules) { r.Numbers = []int{0} }},
			{[]api.GameKind{api.GameKiller}, func(r *api.GameRules) { r.Lives = 3 }}, {nil, func(r *api.GameRules) { r.Lives = -3 }},
			{[]api.GameKind{api.GameKiller}, func(r *api.GameRules) { r.Own = true }},
		} {
			if !slices.Contains(field.used, r.Kind) {
				l = append(l, changed(r, field.set))
			}
		}
	}
	return l
}

// P4.1: rules that are not valid, before all other errors.
func TestCheckErrors(t *testing.T) {
	for _, r := range wrongRules() {
		if e := game.Check(r); e != api.ErrArg {
			t.Error(r, e)
		}
		for _, darts := range [][]api.Bed{nil, list(101), list(999), misses(601)} {
			_, at, _ := game.Play(r, darts)
			if l, more := allErrors(r, darts, list(999, 999)); l != sameErrors(api.ErrArg) || more || at != 0 {
				t.Error(r, len(darts), l, more, at)
			}
		}
	}
	// Too many numbers come before all else, whatever the kind is.
	nine := []int{1, 2, 3, 4, 5, 6, 7, 8, 9}
	for i, r := range []api.GameRules{
		killer(1, true, nine...), killer(0, true, make([]int, 9)...), {Numbers: make([]int, 9)}, {Kind: 7, Players: -1, Numbers: make([]int, 600)},
		{Kind: api.GameKiller, Players: 8, Lives: 1, Numbers: nine}, {Kind: api.GameRound, Players: 1, Last: 5, Numbers: nine},
	} {
		if e := game.Check(r); e != api.ErrLong {
			t.Error(i, e)
		}
		_, at, _ := game.Play(r, list(0, 999))
		if l, more := allErrors(r, list(0, 999), misses(21)); l != sameErrors(api.ErrLong) || more || at != 0 {
			t.Error(i, l, more, at)
		}
	}
}

// play is a game, and the state after its darts.
type play struct {
	r     api.GameRules
	darts []api.Bed
	want  api.GameState
}

// check compares games with what Play returns.
func check(t *testing.T, l ...play) {
	t.Helper()
	for i, p := range l {
		if s, at, e := game.Play(p.r, p.darts); !sameState(s, p.want) || at != 0 || e != api.OK {
			t.Error(i, s, at, e)
		}
	}
}

// P4.2: round.
func TestRound(t *testing.T) {
	check(t, []play{
		{round(1, 20, false, false), nil, state(0, 0, 0, points(0))}, {round(8, 20, true, true), nil, state(0, 0, 0, points(0, 0, 0, 0, 0, 0, 0, 0))},
		// Only the next target counts, and without Jump all of its beds count alike.
		{round(1, 5, false, false), list(401, 101, 202), state(1, 0, 0, points(2))}, {round(1, 5, false, false), list(102, 0), state(0, 0, 2, points(0))}, {round(2, 5, false, false), list(301, 302, 403, 201), state(0, 1, 1, points(3, 1))},
		{round(1, 2, true, false), list(101, 102, 225), state(0, 0, 3, points(3), 0)}, {round(1, 2, true, false), list(101, 102, 101, 102, 125), state(1, 0, 2, points(3), 0)}, {round(1, 2, true, false), list(125, 225, 101), state(1, 0, 0, points(1))},
		// A number never leads beyond Last, and the bull is one target.
		{round(1, 3, true, true), list(401), state(0, 0, 1, points(3))}, {round(1, 3, true, true), list(401, 103, 403), state(1, 0, 0, points(3))}, {round(1, 3, true, true), list(101, 402, 125), state(0, 0, 3, points(4), 0)}, {round(1, 3, true, true), list(101, 202, 225), state(0, 0, 3, points(4), 0)},
		// Without Bull the last number ends it, however far it leads.
		{round(2, 3, false, true), list(301), state(0, 0, 1, points(3, 0), 0)}, {round(2, 3, false, true), list(0, 0, 0, 201, 403), state(0, 1, 2, points(0, 3), 1)}, {round(1, 20, false, true), list(401, 405, 409, 413, 417), state(1, 0, 2, points(20), 0)}, {round(1, 20, true, true), list(401, 405, 409, 413, 417), state(1, 0, 2, points(20))},
		{round(1, 1, false, false), list(0, 0, 0, 0, 101), state(1, 0, 2, points(1), 0)}, {round(1, 1, true, true), list(401, 401, 225), state(0, 0, 3, points(2), 0)}, {round(3, 1, true, false), join(misses(12), list(101, 125)), state(1, 1, 2, points(0, 2, 0), 1)},
		// Turns, and as many darts as are allowed: there is no limit of rounds.
		{round(8, 1, false, false), join(misses(21), list(0, 0, 101)), state(0, 7, 3, points(0, 0, 0, 0, 0, 0, 0, 1), 7)}, {round(8, 1, false, false), misses(24), state(1, 0, 0, points(0, 0, 0, 0, 0, 0, 0, 0))}, {round(8, 1, false, false), misses(600), state(25, 0, 0, points(0, 0, 0, 0, 0, 0, 0, 0))}, {round(1, 1, false, false), misses(599), state(199, 0, 2, points(0))},
	}...)
}

// P4.2: marks and points of cricket.
func TestCricket(t *testing.T) {
	none := marked(0)
	check(t, []play{
		{cricket(2, 1, false), nil, state(0, 0, 0, points(0, 0))},
		// The numbers in their order, and beds of no number.
		{cricket(2, 5, false), list(115, 216, 317), state(0, 1, 0, who(marked(0, 1, 2, 3), none))}, {cricket(2, 5, false), join(rest(), list(118, 219, 320)), state(1, 0, 0, who(none, marked(0, 0, 0, 0, 1, 2, 3)))}, {cricket(2, 5, false), list(114, 401), state(0, 0, 2, points(0, 0))}, {cricket(2, 5, true), list(125, 225, 125), state(0, 1, 0, who(marked(0, 0, 0, 0, 0, 0, 0, 3), marked(25)))},
		// Marks that are too many are extra: for the player, or with Cut for each other one.
		{cricket(2, 5, false), list(415), state(0, 0, 1, who(marked(15, 3), none))}, {cricket(2, 5, false), list(220, 420), state(0, 0, 2, who(marked(60, 0, 0, 0, 0, 0, 3), none))}, {cricket(3, 5, true), list(225, 225), state(0, 0, 2, who(marked(0, 0, 0, 0, 0, 0, 0, 3), marked(25), marked(25)))}, {cricket(3, 5, false), list(225, 225), state(0, 0, 2, who(marked(25, 0, 0, 0, 0, 0, 0, 3), none, none))},
		// With a number closed for all others there are no points; one for whom it is open is enough, wherever this one throws.
		{cricket(2, 5, false), list(320, 0, 0, 320, 120, 420), state(1, 0, 0, who(marked(0, 0, 0, 0, 0, 0, 3), marked(0, 0, 0, 0, 0, 0, 3)))}, {cricket(3, 5, false), list(320, 0, 0, 320, 120, 0), state(0, 2, 0, who(marked(0, 0, 0, 0, 0, 0, 3), marked(20, 0, 0, 0, 0, 0, 3), none))}, {cricket(3, 5, false), list(0, 0, 0, 320, 0, 0, 320, 120), state(0, 2, 2, who(none, marked(0, 0, 0, 0, 0, 0, 3), marked(20, 0, 0, 0, 0, 0, 3)))},
		{cricket(3, 5, true), list(320, 0, 0, 420, 0, 0, 320, 220), state(0, 2, 2, who(marked(0, 0, 0, 0, 0, 0, 3), marked(0, 0, 0, 0, 0, 0, 3), marked(20, 0, 0, 0, 0, 0, 3)))}, {cricket(3, 5, true), list(219, 0, 0, 319, 219, 0, 119), state(0, 2, 1, who(marked(38, 0, 0, 0, 0, 2), marked(0, 0, 0, 0, 0, 3), marked(38, 0, 0, 0, 0, 1)))},
	}...)
}

// Visits with which, one after the other, a player closes all numbers of cricket.
func closing() (a, b, c []api.Bed) { return list(315, 316, 317), list(318, 319, 320), list(225, 125) }

// behind returns darts of cricket with Cut after which player 2 is next: player 0 has closed all numbers, but has 60 points, as player 2 has, and player 1 none.
func behind() []api.Bed {
	a, b, c := closing()
	return join(a, list(320, 320, 0), rest(), b, rest(), rest(), c, misses(1), rest())
}

// P4.2: how cricket is won by closing all numbers.
func TestCricketClosed(t *testing.T) {
	a, b, c := closing()
	none, one, two := marked(0), marked(60, 0, 0, 0, 0, 0, 3), marked(105, 0, 0, 0, 0, 0, 3)
	equal := join(list(320, 320, 0), a, rest(), b, rest(), c)
	check(t, []play{
		{cricket(2, 20, false), join(a, rest(), b, rest(), c), state(2, 0, 2, who(closed(0), none), 0)}, {cricket(2, 20, true), join(a, rest(), b, rest(), c), state(2, 0, 2, who(closed(0), none), 0)}, {cricket(3, 3, false), join(rest(), a, misses(6), b, misses(6), c), state(2, 1, 2, who(none, closed(0), none), 1)}, {cricket(2, 20, false), join(a, rest(), b, rest(), list(225)), state(2, 0, 1, who(marked(0, 3, 3, 3, 3, 3, 3, 2), none))},
		// As many points as another one has are enough, fewer are not.
		{cricket(2, 20, false), equal, state(2, 1, 2, who(one, closed(0)))}, {cricket(2, 20, false), join(equal, list(415)), state(2, 1, 3, who(one, closed(60)), 1)}, {cricket(2, 20, false), join(equal, list(319)), state(3, 0, 0, who(one, closed(57)))}, {cricket(2, 20, false), join(equal, list(420)), state(3, 0, 0, who(one, closed(0)))},
		// With Cut as few points as another one has. A miss wins as well if others have got points.
		{cricket(3, 20, true), behind(), state(2, 2, 0, who(closed(60), marked(0, 0, 0, 0, 0, 0, 3), marked(60)))}, {cricket(3, 20, true), join(behind(), list(315, 315, 0, 0)), state(3, 0, 1, who(closed(60), marked(45, 0, 0, 0, 0, 0, 3), marked(60, 3)))}, {cricket(3, 20, true), join(behind(), list(315, 315, 0, 415)), state(3, 0, 1, who(closed(60), two, marked(60, 3)), 0)},
		{cricket(3, 20, true), join(behind(), list(315, 315, 415)), state(3, 0, 0, who(closed(60), two, marked(60, 3)))}, {cricket(3, 20, true), join(behind(), list(315, 315, 415, 0)), state(3, 0, 1, who(closed(60), two, marked(60, 3)), 0)}, {cricket(3, 20, true), join(behind(), list(315, 315, 415, 107)), state(3, 0, 1, who(closed(60), two, marked(60, 3)), 0)},
	}...)
}

// P4.2: who wins cricket after its rounds.
func TestCricketRounds(t *testing.T) {
	a, b, c := closing()
	none, one := marked(0), marked(60, 0, 0, 0, 0, 0, 3)
	last := join(a, list(320, 320, 0), a, b, rest(), b, c, misses(1), rest(), list(225, 0, 0), misses(6), list(0, 415))
	check(t, []play{
		{cricket(2, 1, false), misses(6), state(0, 1, 3, points(0, 0), 0, 1)}, {cricket(2, 2, false), misses(6), state(1, 0, 0, points(0, 0))}, {cricket(2, 1, false), misses(5), state(0, 1, 2, points(0, 0))}, {cricket(8, 20, true), misses(480), state(19, 7, 3, points(0, 0, 0, 0, 0, 0, 0, 0), 0, 1, 2, 3, 4, 5, 6, 7)},
		// Points come before marks, and marks of all numbers are counted together.
		{cricket(2, 1, false), list(320, 120, 0, 315, 316, 317), state(0, 1, 3, who(marked(20, 0, 0, 0, 0, 0, 3), marked(0, 3, 3, 3)), 0)}, {cricket(2, 1, true), list(320, 120, 0, 315, 316, 317), state(0, 1, 3, who(marked(0, 0, 0, 0, 0, 0, 3), marked(20, 3, 3, 3)), 0)}, {cricket(2, 1, true), list(320, 0, 0, 415, 0, 0), state(0, 1, 3, who(marked(15, 0, 0, 0, 0, 0, 3), marked(0, 3)), 1)},
		{cricket(3, 1, false), list(115, 116, 0, 0, 0, 125, 217, 0, 0), state(0, 2, 3, who(marked(0, 1, 1), marked(0, 0, 0, 0, 0, 0, 0, 1), marked(0, 0, 0, 2)), 0, 2)}, {cricket(3, 1, true), list(115, 0, 0, 216, 0, 125, 217, 0, 0), state(0, 2, 3, who(marked(0, 1), marked(0, 0, 2, 0, 0, 0, 0, 1), marked(0, 0, 0, 2)), 1)},
		// With the last dart player 2 closes all as well, and wins alone; otherwise player 0 has most marks.
		{cricket(3, 4, true), join(last, list(125)), state(3, 2, 3, who(closed(60), one, closed(60)), 2)}, {cricket(3, 4, true), join(last, misses(1)), state(3, 2, 3, who(closed(60), one, marked(60, 3, 3, 3, 3, 3, 3, 2)), 0)}, {cricket(3, 1, false), list(0, 0, 0, 0, 0, 0, 125, 0, 0), state(0, 2, 3, who(none, none, marked(0, 0, 0, 0, 0, 0, 0, 1)), 2)},
	}...)
}

// P4.2: shanghai.
func TestShanghai(t *testing.T) {
	check(t, []play{
		{shanghai(2, 1), nil, state(0, 0, 0, points(0, 0))}, {shanghai(2, 7), list(101, 401, 201), state(0, 1, 0, points(7, 0))}, {shanghai(2, 7), list(102, 201, 125), state(0, 1, 0, points(2, 0))}, {shanghai(2, 2), join(misses(6), list(101, 102, 302)), state(1, 1, 0, points(8, 0))}, {shanghai(8, 20), join(misses(456), list(320, 225, 420)), state(19, 1, 0, points(140, 0, 0, 0, 0, 0, 0, 0))},
		// A single, a double and a treble, in any order, but of one visit.
		{shanghai(2, 7), list(301, 101, 201), state(0, 0, 3, points(6, 0), 0)}, {shanghai(2, 7), join(misses(9), list(202, 302, 102)), state(1, 1, 3, points(0, 12), 1)}, {shanghai(2, 7), list(0, 101, 201, 301), state(0, 1, 1, points(3, 3))}, {shanghai(2, 7), list(101, 201, 0, 0, 0, 0, 302, 102, 0), state(1, 1, 0, points(11, 0))}, {shanghai(2, 7), list(101, 201, 401), state(0, 1, 0, points(7, 0))}, {shanghai(2, 7), list(101, 301, 401), state(0, 1, 0, points(8, 0))}, {shanghai(2, 7), list(201, 301, 401), state(0, 1, 0, points(9, 0))}, {shanghai(2, 7), list(101, 202, 301), state(0, 1, 0, points(4, 0))}, {shanghai(2, 7), list(101, 101, 201), state(0, 1, 0, points(4, 0))},
		// With fewer points, and with the last dart as well: this player alone.
		{shanghai(2, 1), list(401, 401, 401, 301, 201, 101), state(0, 1, 3, points(12, 6), 1)}, {shanghai(2, 1), list(301, 301, 0, 301, 201, 101), state(0, 1, 3, points(6, 6), 1)},
		// After its rounds: the most points.
		{shanghai(2, 1), list(101, 0, 0, 0, 0, 0), state(0, 1, 3, points(1, 0), 0)}, {shanghai(3, 1), list(101, 101, 0, 101, 0, 0, 201, 0, 0), state(0, 2, 3, points(2, 1, 2), 0, 2)}, {shanghai(2, 2), list(401, 0, 0, 0, 0, 0, 0, 0, 0, 302, 0, 0), state(1, 1, 3, points(4, 6), 1)}, {shanghai(2, 20), misses(120), state(19, 1, 3, points(0, 0), 0, 1)}, {shanghai(2, 20), misses(119), state(19, 1, 2, points(0, 0))}, {shanghai(8, 20), misses(480), state(19, 7, 3, points(0, 0, 0, 0, 0, 0, 0, 0), 0, 1, 2, 3, 4, 5, 6, 7)},
	}...)
}

// P4.2: killer.
func TestKiller(t *testing.T) {
	two, own, three := killer(2, false, 5, 9), killer(2, true, 5, 9), killer(1, true, 5, 9, 7)
	check(t, []play{
		{two, nil, state(0, 0, 0, points(2, 2))}, {killer(9, true, 8, 7, 6, 5, 4, 3, 2, 1), nil, state(0, 0, 0, points(9, 9, 9, 9, 9, 9, 9, 9))},
		// Who is not a killer takes no life. Only doubles of the players' numbers count.
		{own, list(209, 209), state(0, 0, 2, points(2, 2))}, {own, list(205, 209), state(0, 0, 2, who(with(2), without(1)))}, {own, list(209, 205, 209), state(0, 1, 0, who(with(2), without(1)))}, {own, list(105, 305, 405), state(0, 1, 0, points(2, 2))}, {own, list(205, 109, 309, 0, 0, 0, 409, 0, 225), state(1, 1, 0, who(with(2), without(2)))}, {own, list(210, 205, 207), state(0, 1, 0, who(with(2), without(2)))}, {own, list(0, 0, 0, 205, 209, 205), state(1, 0, 0, who(without(1), with(2)))},
		// A killer's own number.
		{own, list(205, 205), state(0, 0, 2, who(with(1), without(2)))}, {two, list(205, 205, 205, 0, 0, 0, 205), state(1, 0, 1, who(with(2), without(2)))}, {own, list(205, 205, 0, 0, 0, 0, 205), state(1, 0, 1, who(with(0), without(2)), 1)}, {killer(1, true, 5, 9), list(0, 0, 0, 209, 0, 209), state(0, 1, 3, who(without(1), with(0)), 0)},
		// Only one is left.
		{own, list(205, 209, 209), state(0, 0, 3, who(with(2), without(0)), 0)}, {two, list(205, 209, 0, 209, 0, 0, 209), state(1, 0, 1, who(with(2), with(0)), 0)}, {three, list(205, 207, 209), state(0, 0, 3, who(with(1), without(0), without(0)), 0)}, {three, list(0, 0, 0, 209, 205, 207), state(0, 1, 3, who(without(0), with(1), without(0)), 1)},
		// Who is out stays out: no dart does anything to this player, and the turn is the next one's.
		{three, list(205, 209, 209), state(0, 2, 0, who(with(1), without(0), without(1)))}, {three, list(205, 209, 0, 0, 0, 0), state(1, 0, 0, who(with(1), without(0), without(1)))}, {three, join(rest(), list(209, 207, 0)), state(1, 0, 0, who(without(1), with(1), without(0)))}, {three, join(rest(), rest(), list(207, 205, 0)), state(1, 1, 0, who(without(0), without(1), with(1)))},
		// A visit ends with the player's own last life.
		{three, list(205, 205), state(0, 1, 0, who(with(0), without(1), without(1)))}, {three, list(205, 205, 209, 205, 205), state(0, 2, 0, who(with(0), with(1), without(1)))}, {three, list(0, 0, 0, 209, 0, 209), state(0, 2, 0, who(without(1), with(0), without(1)))}, {three, list(0, 0, 0, 0, 0, 0, 207, 207), state(1, 0, 0, who(without(1), without(1), with(0)))}, {three, list(0, 0, 0, 0, 0, 0, 207, 207, 205), state(1, 0, 1, who(with(1), without(1), with(0)))}, {three, join(list(205, 205), misses(6)), state(1, 1, 0, who(with(0), without(1), without(1)))}, {three, list(205, 205, 0, 209, 209), state(0, 1, 3, who(with(0), with(0), without(1)), 2)},
		{killer(1, true, 1, 2, 3, 4, 5, 6, 7, 8), list(201, 202, 203, 204, 205, 206, 0, 0, 0, 0, 0, 0, 208), state(1, 0, 1, who(with(1), without(0), without(0), with(1), without(0), without(0), without(1), without(0)))},
	}...)
}

// P4.2: the errors of darts, in their order, with the number of the dart; Soon, Useful and Rank have them before their own.
func TestPlayErrors(t *testing.T) {
	won := list(101, 201, 301)
	type wrong struct {
		r     api.GameRules
		darts []api.Bed
		at    int
		e     api.Errno
	}
	l := []wrong{
		{shanghai(2, 7), misses(601), 0, api.ErrLong}, {shanghai(2, 7), slices.Repeat(list(999), 601), 0, api.ErrLong}, {round(1, 1, false, false), join(list(101), misses(600)), 0, api.ErrLong}, {killer(1, true, 5, 9), misses(100000), 0, api.ErrLong},
		{shanghai(2, 7), join(won, misses(1)), 3, api.ErrState}, {shanghai(2, 7), join(won, won), 3, api.ErrState}, {shanghai(2, 7), join(won, misses(1), list(999)), 3, api.ErrState}, {shanghai(2, 1), misses(7), 6, api.ErrState}, {cricket(8, 20, true), misses(481), 480, api.ErrState}, {shanghai(8, 20), misses(600), 480, api.ErrState}, {round(1, 1, false, false), list(101, 101), 1, api.ErrState}, {killer(1, true, 5, 9), list(205, 205, 0), 2, api.ErrState}, {killer(1, true, 5, 9), list(205, 209, 0), 2, api.ErrState},
		// What is no bed is that, also after the end; the first wrong dart decides.
		{shanghai(2, 7), join(won, list(999)), 3, api.ErrArg}, {shanghai(2, 7), list(0, 999, -1), 1, api.ErrArg}, {shanghai(2, 7), list(101, 201, -301, 301, 0), 2, api.ErrArg}, {round(1, 20, true, true), join(misses(599), list(999)), 599, api.ErrArg},
	}
	for _, bed := range noBeds() {
		for _, r := range ofEachKind() {
			l = append(l, wrong{r, list(bed), 0, api.ErrArg}, wrong{r, list(0, 101, bed), 2, api.ErrArg})
		}
	}
	for i, c := range l {
		if s, at, e := game.Play(c.r, c.darts); !noState(s) || at != c.at || e != c.e {
			t.Error(i, s, at, e)
		}
		for _, beds := range [][]api.Bed{nil, misses(21), list(999), misses(2)} {
			if l, more := allErrors(c.r, c.darts, beds); l != sameErrors(c.e) || more {
				t.Error(i, beds, l, more)
			}
		}
	}
}

// R4: no argument is changed, and no two results, nor parts of one, share memory with each other or with an argument.
func TestMemory(t *testing.T) {
	numbers, darts, beds := []int{5, 9, 7, 20}[:3], list(205, 300, 300)[:1], list(209, 207, 205, 300)[:3]
	r := killer(1, true, numbers...)
	s, _, _ := game.Play(r, darts)
	ways, _ := game.Soon(r, darts, beds)
	useful, _ := game.Useful(r, darts)
	groups, _ := game.Rank(r, join(darts, list(209)))
	over, _, _ := game.Play(r, join(darts, list(209, 207)))
	won, _ := game.Rank(r, join(darts, list(209, 207)))
	if !slices.Equal(numbers[:4], []int{5, 9, 7, 20}) || !slices.Equal(darts[:3], list(205, 300, 300)) || !slices.Equal(beds[:4], list(209, 207, 205, 300)) {
		t.Error(numbers[:4], darts[:3], beds[:4])
	}
	clear(numbers)
	clear(darts)
	clear(beds)
	clear(ways[0][:cap(ways[0])])
	if !slices.Equal(ways[1], list(209, 207)) || !slices.Equal(useful, list(205, 207, 209)) {
		t.Error(ways, useful)
	}
	clear(groups[0][:cap(groups[0])])
	clear(won[0][:cap(won[0])])
	if !sameLists(groups, [][]int{{0, 0}, {1}}) || !sameLists(won, [][]int{{0}, {1, 2}}) {
		t.Error(groups, won)
	}
	if !sameState(s, state(0, 0, 1, who(with(1), without(1), without(1)))) || !sameState(over, state(0, 0, 3, who(with(1), without(0), without(0)), 0)) {
		t.Error(s, over)
	}
}
