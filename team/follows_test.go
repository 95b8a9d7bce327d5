package team_test

import (
	"math/rand/v2"
	"slices"
	"testing"

	"oche/api"
	"oche/team"
)

// The chapter's examples of orders and draws.
func TestExamples(t *testing.T) {
	three := example()
	one := rules(4, 2, 1, three.Games[0])
	for _, c := range []struct {
		r    api.TeamRules
		o    api.TeamOrder
		want api.TeamSeal
	}{
		{three, order(0, ints(2), ints(0), ints(1, 3)), seal(1, 3, 1, 50)},
		{three, order(1, ints(2), ints(0), ints(1, 3)), seal(7, 144813, 182605794, 50*1291394886%prime)},
		{one, order(1, ints(2)), seal(7, 144813)},
	} {
		if s, e := team.Seal(c.r, c.o); !sameSeal(s, c.want) || e != api.OK {
			t.Error(s, e)
		}
		if o, e := team.Open(c.r, c.want, c.o.Key); !sameOrder(o, c.o) || e != api.OK {
			t.Error(o, e)
		}
	}
	if o, e := team.Open(one, seal(7, 144813), 0); e != api.ErrState || !sameOrder(o, api.TeamOrder{}) {
		t.Error(o, e)
	}
	if o, e := team.Open(one, seal(7, 144814), 1); e != api.ErrNone || !sameOrder(o, api.TeamOrder{}) {
		t.Error(o, e)
	}
	if l, e := team.Draw(3, 4, 3); !slices.Equal(l, ints(0, 2, 1)) || e != api.OK {
		t.Error(l, e)
	}
	h := handicap(501, 20, 301)
	if a, b, e := team.Starts(h, ints(7), ints(3)); a != 501 || b != 421 || e != api.OK {
		t.Error(a, b, e)
	}
	if a, b, e := team.Starts(h, ints(50), ints(3)); a != 501 || b != 301 || e != api.OK {
		t.Error(a, b, e)
	}
	if l, e := team.Knock(5); !slices.Equal(l, [][2]int{{0, -1}, {1, -1}, {2, -1}, {3, 4}}) || e != api.OK {
		t.Error(l, e)
	}
}

// The chapter's example of a night.
func TestExampleOfNight(t *testing.T) {
	l := []api.TeamSheet{sheet(0, 3, 1), walk(2, 2)}
	x, at, e := team.Night(example(), l)
	if !sameResult(x, api.TeamResult{Points: [2]int{1, 2}, Games: [2]int{1, 1}, Legs: [2]int{3, 3}, Open: ints(1), Winner: -1}) || at != 0 || e != api.OK {
		t.Error(x, at, e)
	}
	x, at, e = team.Night(example(), append(l, sheet(1, 0, 3)))
	if !sameResult(x, api.TeamResult{Points: [2]int{1, 4}, Games: [2]int{1, 2}, Legs: [2]int{3, 6}, Winner: 1}) || at != 0 || e != api.OK {
		t.Error(x, at, e)
	}
	// If the home side wins game 1 it is 2:2 points, and it has more legs.
	for fewer := range 3 {
		if x, at, e = team.Night(example(), append(l, sheet(1, 3, fewer))); x.Points != [2]int{3, 2} || x.Winner != 0 || at != 0 || e != api.OK {
			t.Error(x, at, e)
		}
	}
}

// P10.9: Open of a seal with its key returns the order that was sealed, and with no other key it can be opened.
func TestClosedOrders(t *testing.T) {
	r := rand.New(rand.NewPCG(6, 10))
	closed := 0
	for range 3000 {
		l := randomRules(r, some(r, 3, 20), 15, 99)
		o := randomOrder(r, l)
		s, e := team.Seal(l, o)
		if e != api.OK {
			continue
		}
		closed++
		if got, f := team.Open(l, s, o.Key); !sameOrder(got, o) || f != api.OK {
			t.Fatal(l, o, s, got, f)
		}
		for range 10 {
			key := randomKey(r)
			if got, f := team.Open(l, s, key); key != o.Key && (f != api.ErrState || !sameOrder(got, api.TeamOrder{})) {
				t.Fatal(l, o, s, key, got, f)
			}
		}
	}
	if closed < 500 {
		t.Error(closed)
	}
}

// P10.9: the powers of keys are all different, since none by a part of all but one of the prime is 1.
func TestKeys(t *testing.T) {
	single := rules(1, 1, 0, game(1, 1, 1))
	rest := prime - 1
	for _, factor := range ints(2, 3, 7, 11, 31, 151, 331) {
		for rest%factor == 0 {
			rest /= factor
		}
		if s, e := team.Seal(single, order((prime-1)/factor, ints(0))); s.A == 1 || e != api.OK {
			t.Error(factor, s, e)
		}
	}
	if rest != 1 {
		t.Error(rest)
	}
}

// P10.9: no other order has the same seal, with whatever key.
func TestNoOtherOrder(t *testing.T) {
	type closed struct {
		a int
		b [3]int
	}
	for _, l := range []api.TeamRules{rules(16, 1, 0, game(2, 1, 1)), rules(4, 2, 0, game(1, 1, 1), game(2, 1, 1)), rules(3, 3, 0, game(2, 1, 1), game(1, 1, 1), game(2, 1, 1))} {
		seen := map[closed]bool{}
		for _, key := range ints(0, 1, 2, 3, 4, 5, 71, 1000003, prime/2, lastKey-2, lastKey-1, lastKey) {
			for _, o := range ordersByText(l, key) {
				s, e := team.Seal(l, o)
				c := closed{a: s.A}
				copy(c.b[:], s.B)
				if seen[c] || e != api.OK {
					t.Fatal(l, o, s, e)
				}
				seen[c] = true
			}
		}
	}
}

// P10.10: the order of the sheets does not matter, nor does it if some are there again.
func TestInAnyOrder(t *testing.T) {
	r := rand.New(rand.NewPCG(7, 10))
	for range 5000 {
		l := randomRules(r, 20, 15, 9)
		sheets := randomNight(r, l)
		want, at, e := team.Night(l, sheets)
		if at != 0 || e != api.OK {
			t.Fatal(l, sheets, at, e)
		}
		if len(sheets) == 0 {
			continue
		}
		for range r.IntN(200 - len(sheets)) {
			sheets = append(sheets, some(r, sheets...))
		}
		r.Shuffle(len(sheets), func(i, j int) { sheets[i], sheets[j] = sheets[j], sheets[i] })
		if x, at, e := team.Night(l, sheets); !sameResult(x, want) || at != 0 || e != api.OK {
			t.Fatal(l, sheets, x, at, e, want)
		}
	}
}

// P10.11: a certain winner stays one when all is over, and otherwise there are two ways to end the games with different results.
func TestCertainWinner(t *testing.T) {
	r := rand.New(rand.NewPCG(8, 10))
	certain, uncertain := 0, 0
	for range 5000 {
		l := randomRules(r, 8, 5, 3)
		sheets := randomNight(r, l)
		x, _, e := team.Night(l, sheets)
		if len(x.Open) == 0 || e != api.OK {
			continue
		}
		ends := map[int]bool{}
		for try := range 30 {
			all := slices.Clone(sheets)
			for _, i := range x.Open {
				next := randomSheet(r, l, i)
				if try < 2 {
					next = walk(i, try+1)
				}
				all = append(all, next)
			}
			end, _, e := team.Night(l, all)
			if len(end.Open) > 0 || end.Winner < 0 || e != api.OK || x.Winner >= 0 && end.Winner != x.Winner {
				t.Fatal(l, sheets, x, all, end, e)
			}
			ends[end.Winner] = true
		}
		if x.Winner >= 0 {
			certain++
			continue
		}
		if uncertain++; len(ends) < 2 {
			t.Fatal(l, sheets, x, ends)
		}
	}
	if certain < 300 || uncertain < 300 {
		t.Error(certain, uncertain)
	}
}

// P10.12: with one key given, any n! keys of the other captain one after another draw each way once.
func TestNoCaptainAlone(t *testing.T) {
	r := rand.New(rand.NewPCG(9, 10))
	for players := 1; players <= 7; players++ {
		all := len(ways(players))
		for range 5 {
			given, first := randomKey(r), r.IntN(lastKey-all)
			byAway, byHome := map[[7]int]bool{}, map[[7]int]bool{}
			for key := first; key < first+all; key++ {
				var a, b [7]int
				l, e := team.Draw(players, given, key)
				m, f := team.Draw(players, key, given)
				if copy(a[:], l) != players || copy(b[:], m) != players || e != api.OK || f != api.OK {
					t.Fatal(players, given, key, l, e, m, f)
				}
				byAway[a], byHome[b] = true, true
			}
			if len(byAway) != all || len(byHome) != all {
				t.Fatal(players, given, first, len(byAway), len(byHome))
			}
		}
	}
}

// P10.13: in Knock each player is in one pair, and those with a bye are the best ones.
func TestAllAreThere(t *testing.T) {
	for players := 2; players <= 64; players++ {
		l, e := team.Knock(players)
		if e != api.OK {
			t.Fatal(players, e)
		}
		var in, free, met []int
		for _, pair := range l {
			in = append(in, pair[0])
			if pair[1] < 0 {
				free = append(free, pair[0])
				continue
			}
			in, met = append(in, pair[1]), append(met, pair[:]...)
		}
		slices.Sort(in)
		for i, p := range in {
			if p != i {
				t.Fatal(players, l)
			}
		}
		if len(in) != players || len(free) > 0 && slices.Max(free) > slices.Min(met) {
			t.Error(players, l)
		}
	}
}

// R3: nil and empty lists are the same.
func TestNilAndEmpty(t *testing.T) {
	r := example()
	for _, games := range [][]api.TeamGame{nil, {}} {
		if e := team.Check(rules(4, 2, 1, games...)); e != api.ErrArg {
			t.Error(e)
		}
	}
	for _, players := range [][][]int{nil, {}, {nil, nil, nil}, {{}, {}, {}}, {{2}, {0}, nil}, {{2}, {0}, {}}} {
		if s, e := team.Seal(r, order(0, players...)); e != api.ErrForm || !sameSeal(s, api.TeamSeal{}) {
			t.Error(players, s, e)
		}
	}
	for _, b := range [][]int{nil, {}} {
		if o, e := team.Open(r, seal(1, b...), 0); e != api.ErrForm || !sameOrder(o, api.TeamOrder{}) {
			t.Error(o, e)
		}
		if x, y, e := team.Starts(handicap(501, 20, 301), b, b); e != api.ErrForm || x != 0 || y != 0 {
			t.Error(x, y, e)
		}
	}
	for _, l := range [][]api.TeamSheet{nil, {}} {
		if x, at, e := team.Night(r, l); !sameResult(x, api.TeamResult{Open: ints(0, 1, 2), Winner: -1}) || at != 0 || e != api.OK {
			t.Error(x, at, e)
		}
	}
}

// R4: no argument is changed, and no result is changed by what is done with an argument or another result; no two lists share memory.
func TestMemory(t *testing.T) {
	r := rand.New(rand.NewPCG(11, 10))
	for range 500 {
		l := randomRules(r, 6, 4, 3)
		l.Most = 20
		o, sheets := randomOrder(r, l), randomNight(r, l)
		keptRules, keptPlayers, keptSheets := clone(l), copied(o.Players), slices.Clone(sheets)
		s, _ := team.Seal(l, o)
		back, _ := team.Open(l, s, o.Key)
		again, e := team.Open(l, s, o.Key)
		x, _, f := team.Night(l, sheets)
		if !slices.Equal(l.Games, keptRules.Games) || !sameLists(o.Players, keptPlayers) || !slices.Equal(sheets, keptSheets) || !sameSeal(s, sealByText(o)) || e != api.OK || f != api.OK {
			t.Fatal(l, o, sheets, s, x, e, f)
		}
		clear(l.Games)
		clear(sheets)
		for _, players := range o.Players {
			clear(players)
		}
		clear(s.B)
		for _, players := range back.Players {
			if slices.Contains(players[:cap(players)], -7) {
				t.Fatal(back)
			}
			for i := range players[:cap(players)] {
				players[:cap(players)][i] = -7
			}
		}
		if !sameLists(again.Players, keptPlayers) || !sameResult(x, nightByText(keptRules, keptSheets)) {
			t.Fatal(keptRules, again, x)
		}
	}
	home, away := ints(3, 9), ints(4, 5)
	if _, _, e := team.Starts(handicap(501, 20, 301), home, away); !slices.Equal(home, ints(3, 9)) || !slices.Equal(away, ints(4, 5)) || e != api.OK {
		t.Error(home, away, e)
	}
}

// P1, R2: no arguments make a function panic, and with an error there is no other result.
func TestAnyArguments(t *testing.T) {
	r := rand.New(rand.NewPCG(12, 10))
	n := func() int { return some(r, numbers()...) }
	for range 30000 {
		l := randomRules(r, 4, 4, 3)
		o, sheets := randomOrder(r, l), randomNight(r, l)
		s := sealByText(o)
		switch r.IntN(8) {
		case 0:
			l = some(r, rules(n(), l.Most, l.Bonus, l.Games...), rules(l.Squad, n(), l.Bonus, l.Games...), rules(l.Squad, l.Most, n(), l.Games...), rules(l.Squad, l.Most, l.Bonus, l.Games[1:]...))
		case 1:
			l.Games[r.IntN(len(l.Games))] = game(n(), n(), n())
		case 2:
			o.Players[r.IntN(len(o.Players))] = some(r, nil, ints(n()), ints(n(), n()), ints(n(), n(), n()))
		case 3:
			o.Key = n()
		case 4:
			s.A = n()
		case 5:
			s.B[r.IntN(len(s.B))] = n()
		case 6:
			s.B = append(s.B, n())
		default:
			sheets = append(sheets, api.TeamSheet{Game: some(r, n(), 0), Home: n(), Away: n(), Walk: some(r, n(), 0)})
		}
		if got, e := team.Seal(l, o); e != api.OK && !sameSeal(got, api.TeamSeal{}) {
			t.Fatal(l, o, got, e)
		}
		if got, e := team.Open(l, s, o.Key); e != api.OK && !sameOrder(got, api.TeamOrder{}) || e == api.OK && !sameSeal(sealByText(got), s) {
			t.Fatal(l, s, o.Key, got, e)
		}
		if got, at, e := team.Night(l, sheets); e != api.OK && !sameResult(got, api.TeamResult{}) || e == api.OK && at != 0 || at < 0 || at > len(sheets) {
			t.Fatal(l, sheets, got, at, e)
		}
		if a, b, e := team.Starts(handicap(n(), n(), n()), some(r, nil, ints(n()), ints(n(), n())), some(r, nil, ints(n()), ints(n(), n()))); e != api.OK && (a != 0 || b != 0) {
			t.Fatal(a, b, e)
		}
	}
}

// The limits of the chapter are allowed, all at once.
func TestLargest(t *testing.T) {
	l, o := greatest(), order(lastKey)
	var sheets []api.TeamSheet
	for i := range 20 {
		o.Players = append(o.Players, slices.Clone(ints(14, 15)[2-l.Games[i].Players:]))
		sheets = append(sheets, sheet(i, 14, 15))
	}
	s, e := team.Seal(l, o)
	if !sameSeal(s, sealByText(o)) || e != api.OK {
		t.Error(s, e)
	}
	if back, e := team.Open(l, s, lastKey); !sameOrder(back, o) || e != api.OK {
		t.Error(back, e)
	}
	x, at, e := team.Night(l, slices.Repeat(sheets, 10))
	if !sameResult(x, api.TeamResult{Points: [2]int{0, 21 * 99}, Games: [2]int{0, 20}, Legs: [2]int{280, 300}, Winner: 1}) || at != 0 || e != api.OK {
		t.Error(x, at, e)
	}
}
