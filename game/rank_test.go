package game_test

import (
	"math/rand/v2"
	"testing"

	"oche/api"
	"oche/game"
)

// P4.5: the players in groups.
func TestRank(t *testing.T) {
	a, b, c := closing()
	three := killer(3, true, 5, 9, 7)
	for i, x := range []struct {
		r     api.GameRules
		darts []api.Bed
		want  [][]int
	}{
		// All are as good before the first dart.
		{round(1, 5, false, false), nil, [][]int{{0}}}, {round(8, 5, false, false), nil, [][]int{{0, 1, 2, 3, 4, 5, 6, 7}}}, {cricket(3, 5, true), nil, [][]int{{0, 1, 2}}}, {three, nil, [][]int{{0, 1, 2}}},
		// More points are better, and with Cut fewer.
		{round(3, 5, false, false), list(0, 0, 0, 101, 102, 0, 101), [][]int{{1}, {2}, {0}}}, {shanghai(4, 5), list(101, 0, 0, 0, 0, 0, 301, 0, 0, 101), [][]int{{2}, {0, 3}, {1}}}, {three, list(205, 209, 209, 0, 0, 0, 0, 207, 205), [][]int{{2}, {0}, {1}}}, {cricket(3, 5, false), list(320, 120, 0, 320, 220, 0), [][]int{{1}, {0}, {2}}}, {cricket(3, 5, true), list(320, 120, 0, 320, 220, 0), [][]int{{0}, {1}, {2}}},
		// In cricket alone marks come after points; who is a killer does not matter.
		{cricket(3, 5, false), list(115, 0, 0, 316, 0, 0, 125, 217), [][]int{{1, 2}, {0}}}, {cricket(3, 5, true), list(115, 0, 0, 316, 0, 0, 125, 118), [][]int{{1}, {2}, {0}}}, {cricket(2, 5, false), list(320, 120, 0, 315, 316, 317), [][]int{{0}, {1}}}, {cricket(2, 5, true), list(320, 120, 0, 315, 316, 317), [][]int{{0}, {1}}}, {three, list(205, 0, 0, 0, 0, 0, 207), [][]int{{0, 1, 2}}},
		// When it is over the winners come first, whatever the points are.
		{shanghai(2, 1), list(401, 401, 401, 101, 201, 301), [][]int{{1}, {0}}}, {shanghai(4, 5), list(401, 401, 401, 0, 0, 0, 101, 0, 0, 101, 201, 301), [][]int{{3}, {0}, {2}, {1}}}, {shanghai(4, 1), list(101, 0, 0, 0, 0, 0, 101, 0, 0, 0, 0, 0), [][]int{{0, 2}, {1, 3}}}, {shanghai(2, 5), list(101, 201, 301), [][]int{{0}, {1}}},
		{killer(1, true, 5, 9, 7), list(205, 207, 209), [][]int{{0}, {1, 2}}}, {killer(1, true, 5, 9), list(205, 205), [][]int{{1}, {0}}}, {round(3, 1, false, false), list(0, 0, 0, 101), [][]int{{1}, {0, 2}}},
		{cricket(2, 1, false), misses(6), [][]int{{0, 1}}}, {cricket(3, 20, true), join(behind(), list(315, 415, 320, 0)), [][]int{{0}, {2}, {1}}}, {cricket(3, 4, true), join(a, list(320, 320, 0), a, b, rest(), b, c, misses(1), rest(), list(225, 0, 0), misses(6), list(0, 415, 125)), [][]int{{2}, {0}, {1}}},
	} {
		if groups, e := game.Rank(x.r, x.darts); !sameLists(groups, x.want) || e != api.OK {
			t.Error(i, groups, e)
		}
	}
}

// P4.5: in games of all sorts Rank returns what the text says.
func TestRankByText(t *testing.T) {
	r := rand.New(rand.NewPCG(3, 4))
	overs, shared, worse := 0, 0, 0
	for range 10000 {
		rules := randomRules(r, some(r, kinds()...))
		darts, s := randomDarts(r, rules, some(r, r.IntN(60), 600))
		want := rankByText(rules, darts)
		groups, e := game.Rank(rules, darts)
		if !sameLists(groups, want) || e != api.OK {
			t.Fatal(rules, darts, groups, e, want)
		}
		if len(s.Winners) == 0 {
			continue
		}
		overs++
		if len(s.Winners) > 1 {
			shared++
		}
		if len(groups) > 1 && !rules.Cut && s.Players[groups[0][0]].Points < s.Players[groups[1][0]].Points {
			worse++
		}
	}
	if overs < 1000 || shared < 50 || worse < 5 {
		t.Error("too few games of some sort:", overs, shared, worse)
	}
}
