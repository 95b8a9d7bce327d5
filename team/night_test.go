package team_test

import (
	"math"
	"math/rand/v2"
	"slices"
	"testing"

	"oche/api"
	"oche/team"
)

// P10.6: each sheet with small numbers is valid or not as the text has it, and others are not.
func TestSheets(t *testing.T) {
	r := rules(4, 2, 1, game(1, 3, 1), game(2, 1, 2), game(1, 2, 0))
	for number := -1; number <= 4; number++ {
		for won := -2; won <= 5; won++ {
			for lost := -2; lost <= 5; lost++ {
				for how := -1; how <= 4; how++ {
					s := api.TeamSheet{Game: number, Home: won, Away: lost, Walk: how}
					x, at, e := team.Night(r, []api.TeamSheet{s})
					if validSheetByText(r, s) {
						if want := nightByText(r, []api.TeamSheet{s}); !sameResult(x, want) || at != 0 || e != api.OK {
							t.Fatal(s, x, at, e, want)
						}
					} else if !sameResult(x, api.TeamResult{}) || at != 0 || e != api.ErrArg {
						t.Fatal(s, x, at, e)
					}
				}
			}
		}
	}
	for _, n := range ints(math.MinInt, math.MinInt+1, math.MaxInt-1, math.MaxInt) {
		for _, s := range []api.TeamSheet{sheet(n, 3, 1), sheet(0, n, 3), sheet(0, 3, n), sheet(0, n, 1), sheet(0, 1, n), sheet(0, n, n), walk(n, 1), walk(0, n), {Game: 0, Home: n, Walk: 1}, {Game: 0, Away: n, Walk: 2}} {
			if x, at, e := team.Night(r, []api.TeamSheet{s}); !sameResult(x, api.TeamResult{}) || at != 0 || e != api.ErrArg {
				t.Error(s, x, at, e)
			}
		}
	}
}

// P10.7: nights, whose winner is certain or not.
func TestNight(t *testing.T) {
	two := func(points, bonus int) api.TeamRules {
		return rules(2, 2, bonus, game(1, 3, points), game(1, 3, points))
	}
	for i, c := range []struct {
		r    api.TeamRules
		l    []api.TeamSheet
		want api.TeamResult
	}{
		// Nothing is known, or one game is left that decides, by points or by legs alone.
		{two(1, 5), nil, api.TeamResult{Open: ints(0, 1), Winner: -1}},
		{two(1, 5), []api.TeamSheet{sheet(1, 3, 0)}, api.TeamResult{Points: [2]int{1, 0}, Games: [2]int{1, 0}, Legs: [2]int{3, 0}, Open: ints(0), Winner: -1}},
		{two(1, 5), []api.TeamSheet{sheet(0, 1, 3)}, api.TeamResult{Points: [2]int{0, 1}, Games: [2]int{0, 1}, Legs: [2]int{1, 3}, Open: ints(1), Winner: -1}},
		{two(0, 5), []api.TeamSheet{sheet(0, 3, 0)}, api.TeamResult{Games: [2]int{1, 0}, Legs: [2]int{3, 0}, Open: ints(1), Winner: -1}},
		// A game without points can't change who wins, or it can by its legs.
		{rules(2, 2, 5, game(1, 3, 1), game(1, 3, 0)), []api.TeamSheet{sheet(0, 3, 2)}, api.TeamResult{Points: [2]int{1, 0}, Games: [2]int{1, 0}, Legs: [2]int{3, 2}, Open: ints(1), Winner: 0}},
		{rules(2, 2, 5, game(1, 3, 1), game(1, 3, 0)), []api.TeamSheet{sheet(0, 2, 3)}, api.TeamResult{Points: [2]int{0, 1}, Games: [2]int{0, 1}, Legs: [2]int{2, 3}, Open: ints(1), Winner: 1}},
		{rules(2, 2, 5, game(1, 3, 0), game(1, 2, 0)), []api.TeamSheet{sheet(0, 3, 1)}, api.TeamResult{Games: [2]int{1, 0}, Legs: [2]int{3, 1}, Open: ints(1), Winner: -1}},
		{rules(2, 2, 5, game(1, 3, 0), game(1, 2, 0)), []api.TeamSheet{sheet(0, 3, 0)}, api.TeamResult{Games: [2]int{1, 0}, Legs: [2]int{3, 0}, Open: ints(1), Winner: 0}},
		{rules(2, 2, 5, game(1, 3, 0), game(1, 2, 0)), []api.TeamSheet{sheet(0, 0, 3)}, api.TeamResult{Games: [2]int{0, 1}, Legs: [2]int{0, 3}, Open: ints(1), Winner: 1}},
		// All is over: by points, by legs with as many points, and a draw, which has no bonus.
		{two(1, 5), []api.TeamSheet{sheet(0, 3, 2), sheet(1, 3, 2)}, api.TeamResult{Points: [2]int{7, 0}, Games: [2]int{2, 0}, Legs: [2]int{6, 4}}},
		{two(1, 5), []api.TeamSheet{sheet(0, 3, 2), sheet(1, 1, 3)}, api.TeamResult{Points: [2]int{1, 6}, Games: [2]int{1, 1}, Legs: [2]int{4, 5}, Winner: 1}},
		{two(1, 5), []api.TeamSheet{sheet(0, 3, 1), sheet(1, 2, 3)}, api.TeamResult{Points: [2]int{6, 1}, Games: [2]int{1, 1}, Legs: [2]int{5, 4}}},
		{two(1, 5), []api.TeamSheet{sheet(0, 3, 1), sheet(1, 1, 3)}, api.TeamResult{Points: [2]int{1, 1}, Games: [2]int{1, 1}, Legs: [2]int{4, 4}, Winner: 2}},
		{two(0, 5), []api.TeamSheet{walk(0, 2), walk(1, 1)}, api.TeamResult{Games: [2]int{1, 1}, Legs: [2]int{3, 3}, Winner: 2}},
		{two(1, 0), []api.TeamSheet{walk(0, 2), walk(1, 2)}, api.TeamResult{Points: [2]int{0, 2}, Games: [2]int{0, 2}, Legs: [2]int{0, 6}, Winner: 1}},
		// Fewer games and legs, but more points.
		{rules(2, 3, 1, game(1, 3, 1), game(1, 3, 1), game(1, 1, 3)), []api.TeamSheet{walk(0, 1), walk(1, 1), sheet(2, 0, 1)}, api.TeamResult{Points: [2]int{2, 4}, Games: [2]int{2, 1}, Legs: [2]int{6, 1}, Winner: 1}},
		// Sheets in another order, and some of them again.
		{two(1, 5), []api.TeamSheet{sheet(1, 1, 3), sheet(0, 3, 2), sheet(1, 1, 3), sheet(1, 1, 3), sheet(0, 3, 2)}, api.TeamResult{Points: [2]int{1, 6}, Games: [2]int{1, 1}, Legs: [2]int{4, 5}, Winner: 1}},
	} {
		if x, at, e := team.Night(c.r, c.l); !sameResult(x, c.want) || at != 0 || e != api.OK {
			t.Error(i, x, at, e)
		}
	}
}

// P10.7: too many sheets, then the first wrong one decides, with its number.
func TestNightErrors(t *testing.T) {
	good, other := sheet(0, 3, 1), sheet(2, 2, 0)
	for i, c := range []struct {
		l  []api.TeamSheet
		at int
		e  api.Errno
	}{
		{slices.Repeat([]api.TeamSheet{good}, 201), 0, api.ErrLong}, {make([]api.TeamSheet, 201), 0, api.ErrLong}, {append(slices.Repeat([]api.TeamSheet{good}, 199), sheet(0, 3, 2)), 199, api.ErrTwice}, {append(slices.Repeat([]api.TeamSheet{good}, 199), sheet(3, 3, 2)), 199, api.ErrArg},
		{[]api.TeamSheet{good, other, sheet(0, 3, 2)}, 2, api.ErrTwice}, {[]api.TeamSheet{good, other, sheet(0, 1, 3)}, 2, api.ErrTwice}, {[]api.TeamSheet{other, good, walk(0, 1)}, 2, api.ErrTwice}, {[]api.TeamSheet{walk(0, 1), walk(0, 2)}, 1, api.ErrTwice},
		// A walkover is not the same as to win it all, although it counts so.
		{[]api.TeamSheet{sheet(0, 3, 0), walk(0, 1)}, 1, api.ErrTwice}, {[]api.TeamSheet{walk(2, 2), sheet(2, 0, 2)}, 1, api.ErrTwice},
		// A sheet that is there again, but wrong now.
		{[]api.TeamSheet{good, sheet(0, 3, 3)}, 1, api.ErrArg}, {[]api.TeamSheet{good, good, {}}, 2, api.ErrArg}, {[]api.TeamSheet{good, good, {Game: 0, Home: 3, Away: 1, Walk: 1}}, 2, api.ErrArg},
		// The first one of several decides.
		{[]api.TeamSheet{good, {}, sheet(0, 3, 2)}, 1, api.ErrArg}, {[]api.TeamSheet{good, sheet(0, 3, 2), {}}, 1, api.ErrTwice}, {[]api.TeamSheet{{}, good, sheet(0, 3, 2)}, 0, api.ErrArg},
	} {
		if x, at, e := team.Night(example(), c.l); !sameResult(x, api.TeamResult{}) || at != c.at || e != c.e {
			t.Error(i, x, at, e)
		}
	}
	if x, at, e := team.Night(example(), slices.Repeat([]api.TeamSheet{good}, 200)); !sameResult(x, nightByText(example(), []api.TeamSheet{good})) || at != 0 || e != api.OK {
		t.Error(x, at, e)
	}
}

// P10.7: nights are the same as by the text, which goes through all ways to end what is open.
func TestNightsByText(t *testing.T) {
	r := rand.New(rand.NewPCG(5, 10))
	winners := map[[2]int]int{} // by the winner, and whether a game is open
	for range 20000 {
		l := randomRules(r, 5, some(r, 2, 3, 5), some(r, 1, 2, 4))
		sheets := randomNight(r, l)
		want := nightByText(l, sheets)
		x, at, e := team.Night(l, sheets)
		if !sameResult(x, want) || at != 0 || e != api.OK {
			t.Fatal(l, sheets, x, at, e, want)
		}
		winners[[2]int{x.Winner, min(1, len(x.Open))}]++
	}
	for _, kind := range [][2]int{{0, 0}, {1, 0}, {2, 0}, {0, 1}, {1, 1}, {-1, 1}} {
		if winners[kind] < 100 {
			t.Error(kind, winners)
		}
	}
	if len(winners) != 6 {
		t.Error(winners)
	}
}
