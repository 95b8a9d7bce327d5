package game_test

import (
	"math"
	"math/rand/v2"
	"slices"
	"testing"

	"oche/api"
	"oche/game"
)

// P4.2, P4.6: after each dart of games of all sorts, Play returns the state that the text says; a dart after the end is wrong.
func TestGamesByText(t *testing.T) {
	r := rand.New(rand.NewPCG(4, 4))
	overs := map[api.GameKind]int{}
	for range 1500 {
		rules := randomRules(r, some(r, kinds()...))
		darts, last := randomDarts(r, rules, some(r, r.IntN(60), 599))
		x := newText(rules)
		for n, bed := range darts {
			if s, at, e := game.Play(rules, darts[:n]); !sameState(s, x.state()) || at != 0 || e != api.OK {
				t.Fatal(rules, darts[:n], s, at, e, x.state())
			}
			x.dart(bed)
		}
		if s, at, e := game.Play(rules, darts); !sameState(s, last) || at != 0 || e != api.OK {
			t.Fatal(rules, darts, s, at, e, last)
		}
		if len(last.Winners) == 0 {
			continue
		}
		overs[rules.Kind]++
		more := append(slices.Clone(darts), some(r, append(allBeds(), 0)...))
		if s, at, e := game.Play(rules, more); !noState(s) || at != len(darts) || e != api.ErrState {
			t.Fatal(rules, more, s, at, e)
		}
	}
	for _, kind := range kinds() {
		if overs[kind] < 100 {
			t.Error("too few games of some sort are over:", overs)
		}
	}
}

// keeps reports whether a player has lost nothing that a dart of this kind of game cannot take.
func keeps(kind api.GameKind, before, after api.GamePlayer) bool {
	for i := range before.Marks {
		if after.Marks[i] < before.Marks[i] || after.Marks[i] > 3 {
			return false
		}
	}
	if kind == api.GameKiller {
		return after.Points <= before.Points && after.Points >= 0 && (after.Killer || !before.Killer) && after.Marks == [7]int{}
	}
	return after.Points >= before.Points && !after.Killer && (kind == api.GameCricket || after.Marks == [7]int{})
}

// P4.6, P4.7: no dart changes what was before, and the players throw in turn.
func TestInTurn(t *testing.T) {
	r := rand.New(rand.NewPCG(5, 4))
	for range 1000 {
		rules := randomRules(r, some(r, kinds()...))
		darts, _ := randomDarts(r, rules, r.IntN(100))
		before, _, _ := game.Play(rules, nil)
		for n := range darts {
			s, _, e := game.Play(rules, darts[:n+1])
			for p := range s.Players {
				if e != api.OK || !keeps(rules.Kind, before.Players[p], s.Players[p]) {
					t.Fatal(rules, darts[:n+1], s, e, before)
				}
			}
			thrown := n + 1
			if rules.Kind != api.GameKiller && len(s.Winners) == 0 && (s.Round != thrown/(3*rules.Players) || s.Player != thrown/3%rules.Players || s.Darts != thrown%3) {
				t.Fatal(rules, darts[:n+1], s)
			}
			// The last dart is one of the visit that went on.
			if len(s.Winners) > 0 && (s.Round != before.Round || s.Player != before.Player || s.Darts != before.Darts+1) {
				t.Fatal(rules, darts[:n+1], s, before)
			}
			before = s
		}
	}
}

// P4.8: who can win.
func TestWhoWins(t *testing.T) {
	r := rand.New(rand.NewPCG(6, 4))
	for range 4000 {
		rules := randomRules(r, some(r, kinds()...))
		darts, _ := randomDarts(r, rules, 600)
		s, _, e := game.Play(rules, darts)
		if e != api.OK || !slices.IsSorted(s.Winners) || len(s.Winners) == 0 && len(darts) < 600 {
			t.Fatal(rules, darts, s, e)
		}
		n := len(darts)
		all := rules.Kind == api.GameShanghai && n%3 == 0 && slices.Equal(slices.Sorted(slices.Values(darts[n-3:])), allOf(s.Round + 1)[:3])
		for _, winner := range s.Winners {
			for _, other := range s.Players {
				more, fewer := other.Points > s.Players[winner].Points, other.Points < s.Players[winner].Points
				if more && !rules.Cut && !all || fewer && rules.Cut {
					t.Fatal(rules, darts, s)
				}
			}
		}
		if len(s.Winners) > 1 && (all || rules.Kind == api.GameRound || rules.Kind == api.GameKiller) {
			t.Fatal(rules, darts, s)
		}
	}
}

// P4.9: each list wins, with fewer darts none does, and with fewer beds no list is shorter.
func TestAsSoonAsPossible(t *testing.T) {
	r := rand.New(rand.NewPCG(7, 4))
	found := 0
	for range 6000 {
		rules := randomRules(r, some(r, kinds()...))
		darts, s := randomDarts(r, rules, 300)
		if len(s.Winners) == 0 {
			continue
		}
		darts = darts[:max(0, len(darts)-1-r.IntN(3))]
		begun, _, _ := game.Play(rules, darts)
		beds := someBeds(r, rules, begun)
		ways, _ := game.Soon(rules, darts, beds)
		for i, way := range ways {
			s, _, e := game.Play(rules, join(darts, way))
			if e != api.OK || !slices.Contains(s.Winners, begun.Player) || len(way) != len(ways[0]) || i > 0 && slices.Compare(ways[i-1], way) >= 0 {
				t.Fatal(rules, darts, beds, ways, s, e)
			}
		}
		if len(beds) == 0 {
			continue
		}
		fewer, e := game.Soon(rules, darts, beds[1:])
		if e != api.OK || len(fewer) > 0 && (len(ways) == 0 || len(fewer[0]) < len(ways[0])) {
			t.Fatal(rules, darts, beds, ways, fewer, e)
		}
		if len(fewer) > 0 {
			found++
		}
	}
	if found < 500 {
		t.Error("too few lists:", found)
	}
}

// The chapter's examples (P4.2, P4.4, P4.5).
func TestExamples(t *testing.T) {
	first, two, cut := round(1, 3, true, true), cricket(2, 20, false), cricket(2, 20, true)
	shang, last := shanghai(2, 7), killer(2, true, 5, 9)
	check(t, []play{
		{first, list(201), state(0, 0, 1, points(2))}, {first, list(201, 301, 102, 125), state(1, 0, 1, points(2))}, {first, list(201, 301, 102, 125, 303), state(1, 0, 2, points(3))}, {first, list(201, 301, 102, 125, 303, 225), state(1, 0, 3, points(4), 0)},
		{two, list(320), state(0, 0, 1, who(marked(0, 0, 0, 0, 0, 0, 3), marked(0)))}, {two, list(320, 220), state(0, 0, 2, who(marked(40, 0, 0, 0, 0, 0, 3), marked(0)))}, {cut, list(320, 220), state(0, 0, 2, who(marked(0, 0, 0, 0, 0, 0, 3), marked(40)))},
		{shang, list(101, 301, 201), state(0, 0, 3, points(6, 0), 0)}, {last, list(205), state(0, 0, 1, who(with(2), without(2)))}, {last, list(205, 209, 209), state(0, 0, 3, who(with(2), without(0)), 0)}, {last, list(205, 205, 0), state(0, 1, 0, who(with(1), without(2)))},
	}...)
	for _, c := range []struct{ darts, want []api.Bed }{{nil, list(205)}, {list(205, 205, 0), list(209)}} {
		if beds, e := game.Useful(last, c.darts); !slices.Equal(beds, c.want) || e != api.OK {
			t.Error(c.darts, beds, e)
		}
	}
	for _, r := range []api.GameRules{two, cut} {
		if groups, e := game.Rank(r, list(320, 220)); !sameLists(groups, [][]int{{0}, {1}}) || e != api.OK {
			t.Error(r, groups, e)
		}
	}
}

// P1: whatever the arguments are, no function panics, and with an error the other results are zero values.
func TestAnyArguments(t *testing.T) {
	r := rand.New(rand.NewPCG(8, 4))
	pick := func() int {
		return some(r, math.MinInt, -1, 0, 1, 2, 5, 8, 9, 10, 20, 21, 25, 101, 125, 225, 325, 421, 600, 601, math.MaxInt)
	}
	numbers := func() []int {
		l := make([]int, r.IntN(11))
		for i := range l {
			l[i] = pick()
		}
		return l
	}
	right := 0
	for range 30000 {
		rules := randomRules(r, some(r, kinds()...))
		switch r.IntN(8) {
		case 0:
			rules.Players = pick()
		case 1:
			rules.Kind = api.GameKind(pick())
		case 2:
			rules.Last, rules.Rounds, rules.Lives = pick(), pick(), pick()
		case 3:
			rules.Numbers = numbers()
		case 4:
			rules = api.GameRules{Kind: api.GameKind(1 + r.IntN(4)), Players: pick(), Numbers: numbers(), Last: pick(), Rounds: pick(), Lives: pick()}
		}
		var lists [2][]api.Bed
		for i := range lists {
			for range r.IntN(8) {
				bed := some(r, allBeds()...)
				if r.IntN(20) == 0 {
					bed = api.Bed(pick())
				}
				lists[i] = append(lists[i], bed)
			}
		}
		l, more := allErrors(rules, lists[0], lists[1])
		if e := game.Check(rules); more || e != api.OK && l != sameErrors(e) {
			t.Fatal(rules, lists, l, more, e)
		}
		if l == sameErrors(api.OK) {
			right++
		}
	}
	if right < 3000 {
		t.Error("too few right arguments:", right)
	}
}
