package heard_test

import (
	"math"
	"math/rand/v2"
	"slices"
	"testing"

	"oche/api"
	"oche/heard"
)

// wrongLegs returns legs that are not valid, with their errors.
func wrongLegs() map[string]struct {
	l    api.HeardLeg
	want api.Errno
} {
	wrong := map[string]struct {
		l    api.HeardLeg
		want api.Errno
	}{}
	add := func(name string, want api.Errno, change func(l *api.HeardLeg)) {
		l := example()
		change(&l)
		wrong[name] = struct {
			l    api.HeardLeg
			want api.Errno
		}{l, want}
	}
	for name, beds := range map[string][]api.Bed{
		"no beds": nil, "an empty list": {}, "a miss": {0}, "a miss before": {0, 101}, "a bed twice": {101, 101}, "descending": {201, 101}, "descending at the end": {101, 220, 219}, "no bed": {121}, "a treble bull": {325}, "a factor too much": {101, 501}, "a bed below 0": {-101}, "least": {math.MinInt, 101}, "greatest": {101, math.MaxInt}, "82 misses": make([]api.Bed, 82), "82 with a wrong one": append(allBeds(4)[1:], 421),
	} {
		add(name, api.ErrArg, func(l *api.HeardLeg) { l.Beds = beds })
	}
	for name, beds := range map[string][]api.Bed{"83 misses": make([]api.Bed, 83), "83 beds": append(allBeds(4), 421), "many": make([]api.Bed, 5000)} {
		add(name, api.ErrLong, func(l *api.HeardLeg) { l.Beds = beds })
		add(name+" and all else wrong", api.ErrLong, func(l *api.HeardLeg) { *l = api.HeardLeg{Beds: beds, Won: true} })
	}
	for _, start := range []int{math.MinInt, -2, 0, 1, 1002, math.MaxInt} {
		add("start", api.ErrArg, func(l *api.HeardLeg) { l.Count.Start = start })
	}
	for _, gate := range []api.Gate{math.MinInt, -1, 3, math.MaxInt} {
		add("gate in", api.ErrArg, func(l *api.HeardLeg) { l.Count.In = gate })
		add("gate out", api.ErrArg, func(l *api.HeardLeg) { l.Count.Out = gate })
	}
	for name, players := range map[string]int{"-1 players": -1, "0 players": 0, "5 players": 5, "most players": math.MaxInt, "least players": math.MinInt} {
		add(name, api.ErrArg, func(l *api.HeardLeg) { l.Players = players })
	}
	for name, turns := range map[string]int{"-1 turns": -1, "61 turns": 61, "most turns": math.MaxInt, "least turns": math.MinInt} {
		add(name, api.ErrArg, func(l *api.HeardLeg) { l.Turns, l.Won = turns, false })
		add(name+" and won", api.ErrArg, func(l *api.HeardLeg) { l.Turns = turns })
	}
	add("won without a turn", api.ErrArg, func(l *api.HeardLeg) { l.Turns = 0 })
	add("nothing", api.ErrArg, func(l *api.HeardLeg) { *l = api.HeardLeg{} })
	return wrong
}

// P5.1: legs that are valid, up to all limits.
func TestCheck(t *testing.T) {
	most := played(laws(1001, master, master, allBeds(4)...), 4, 60, true)
	if len(most.Beds) != 82 {
		t.Fatal(len(most.Beds))
	}
	for i, l := range []api.HeardLeg{example(), most, laws(2, free, free, 101), played(usual(501), 4, 1, true), played(usual(501), 1, 0, false), played(usual(501), 1, 60, false), played(laws(2, double, double, 420), 3, 1, true)} {
		if e := heard.Check(l); e != api.OK {
			t.Error(i, e)
		}
	}
}

// P5.1: errors of a leg, which come first in all functions, and nothing with them.
func TestWrongLegs(t *testing.T) {
	wrongReports := [][]api.HeardReport{nil, said(say(0, -1, -1)), said(say(-9, -9, -9)), make([]api.HeardReport, 11), make([]api.HeardReport, 101)}
	for name, c := range wrongLegs() {
		if e := heard.Check(c.l); e != c.want {
			t.Error(name, e)
		}
		for _, s := range []api.HeardStand{in(50), in(2), notIn(50), {}, in(-1)} {
			scores, wins, e := heard.Visits(c.l, s)
			ways, darts, f := heard.Ways(c.l, s, s.Left-2)
			if scores != nil || wins || ways != 0 || darts != to(0, 0) || e != c.want || f != c.want {
				t.Error(name, s, scores, wins, ways, darts, e, f)
			}
		}
		for _, reports := range wrongReports {
			scores, lefts, darts, e := heard.Truth(c.l, reports)
			blame, f := heard.Blame(c.l, reports)
			drop, g := heard.Drop(c.l, reports)
			if scores != nil || lefts != nil || darts != nil || blame != nil || drop != nil || e != c.want || f != c.want || g != c.want {
				t.Error(name, len(reports), scores, lefts, darts, blame, drop, e, f, g)
			}
		}
	}
}

// P5.2 and P5.4: the errors of a stand and of a score, in their order, for each pair of gates.
func TestWrongStands(t *testing.T) {
	for _, gateIn := range []api.Gate{free, double, master} {
		for _, gateOut := range []api.Gate{free, double, master} {
			l := laws(20, gateIn, gateOut, 101, 210)
			for _, left := range append(numbers(), 19, 20, 21) {
				for _, isIn := range []bool{false, true} {
					s := api.HeardStand{Left: left, In: isIn}
					ok := left <= 20 && (left >= 2 || left == 1 && gateOut == free)
					if !isIn {
						ok = left == 20 && gateIn != free
					}
					want, wantRange := api.ErrArg, api.ErrArg
					if ok {
						want, wantRange = api.OK, api.ErrRange
					}
					scores, wins, e := heard.Visits(l, s)
					if e != want || !ok && (scores != nil || wins) || ok && scores[0] != 0 {
						t.Error(l, s, scores, wins, e)
					}
					if ways, darts, e := heard.Ways(l, s, 0); e != want || (ways > 0) != ok || (darts != to(0, 0)) != ok {
						t.Error(l, s, ways, darts, e)
					}
					for _, score := range []int{math.MinInt, -1, 241, math.MaxInt} {
						if ways, darts, e := heard.Ways(l, s, score); ways != 0 || darts != to(0, 0) || e != wantRange {
							t.Error(l, s, score, ways, darts, e)
						}
					}
				}
			}
		}
	}
}

// P5.2: Players, Turns and Won do not matter for a visit, but are checked.
func TestOneVisit(t *testing.T) {
	for _, l := range []api.HeardLeg{played(example(), 1, 0, false), played(example(), 4, 60, true), played(example(), 3, 1, true), played(example(), 1, 60, false)} {
		scores, wins, e := heard.Visits(l, in(2))
		if !slices.Equal(scores, []int{0}) || !wins || e != api.OK {
			t.Error(l, scores, wins, e)
		}
		if ways, darts, e := heard.Ways(l, in(2), 0); ways != 13 || darts != to(1, 3) || e != api.OK {
			t.Error(l, ways, darts, e)
		}
	}
}

// P5.3: what visits can score, and whether they can win.
func TestVisits(t *testing.T) {
	for i, c := range []struct {
		l      api.HeardLeg
		s      api.HeardStand
		scores []int
		wins   bool
	}{
		{example(), in(2), []int{0}, true},
		{example(), in(50), []int{0, 1, 2, 3, 4, 5, 6, 20, 21, 22, 23, 24, 40, 41, 42, 43, 44}, false},
		// With GateAny 1 can be left, and is ended by the single 1.
		{laws(9, free, free, 101), in(1), []int{0}, true}, {laws(9, free, free, 102), in(1), []int{0}, false}, {laws(9, free, free, 102), in(3), []int{0, 2}, false}, {laws(9, free, double, 102), in(3), []int{0}, false}, {laws(9, free, master, 102, 301), in(3), []int{0}, true},
		// Without a bed that opens the gate, nothing is scored, and nothing is bust.
		{laws(9, double, free, 101, 320), notIn(9), []int{0}, false}, {laws(9, double, free, 101, 320), in(9), []int{0, 1, 2, 3}, false}, {laws(9, master, free, 101, 301), notIn(9), []int{0, 3, 4, 5, 6, 7}, true},
		// A player comes in, and wins, with the same dart, or does both and is bust.
		{laws(4, double, double, 202), notIn(4), []int{0}, true}, {laws(5, double, double, 202), notIn(5), []int{0}, false}, {laws(4, master, double, 402), notIn(4), []int{0}, false}, {laws(4, master, double, 202, 402), notIn(4), []int{0}, true},
		{laws(6, double, double, 101, 202), notIn(6), []int{0, 4}, false}, {laws(8, double, master, 101, 201, 301), notIn(8), []int{0, 2, 3, 4, 5, 6}, true},
		// All darts can score 240.
		{laws(1001, free, double, 420), in(1001), []int{0, 80, 160, 240}, false}, {laws(1001, free, master, 420), in(240), []int{0, 80, 160}, true},
	} {
		scores, wins, e := heard.Visits(c.l, c.s)
		if !slices.Equal(scores, c.scores) || wins != c.wins || e != api.OK {
			t.Error(i, scores, wins, e)
		}
	}
}

// P5.4: how many visits have a score, and how many darts they have.
func TestWays(t *testing.T) {
	for i, c := range []struct {
		l     api.HeardLeg
		s     api.HeardStand
		score int
		ways  int
		darts api.Span
		e     api.Errno
	}{
		{example(), in(2), 0, 13, to(1, 3), api.OK}, {example(), in(2), 2, 3, to(1, 3), api.OK}, {example(), in(2), 1, 0, to(0, 0), api.ErrNone},
		// None, one or two misses and an eye; two bulls do not win.
		{laws(50, free, double, 125, 225), in(50), 50, 3, to(1, 3), api.OK}, {laws(50, free, double, 125, 225), in(50), 25, 3, to(3, 3), api.OK}, {laws(50, free, double, 125, 225), in(50), 0, 1 + 2 + 4, to(2, 3), api.OK},
		{usual(501), in(170), 170, 1, to(3, 3), api.OK}, {usual(501), in(169), 169, 0, to(0, 0), api.ErrNone}, {usual(501), in(501), 180, 1, to(3, 3), api.OK}, {usual(501), in(501), 179, 0, to(0, 0), api.ErrNone}, {usual(501), in(501), 0, 1, to(3, 3), api.OK}, {usual(501), in(501), 1, 3, to(3, 3), api.OK}, {usual(501), in(501), 240, 0, to(0, 0), api.ErrNone},
		// Bust visits, and those that miss, have the score 0.
		{laws(3, free, double, 102), in(3), 0, 4, to(1, 3), api.OK}, {laws(2, free, double, 101), in(2), 0, 4, to(1, 3), api.OK}, {laws(4, free, double, 102), in(4), 0, 1 + 3, to(2, 3), api.OK}, {laws(6, free, double, 102), in(6), 0, 2, to(3, 3), api.OK}, {laws(6, free, double, 102), in(6), 2, 3, to(3, 3), api.OK},
		// Who is not in yet can be bust too, and is not in then.
		{laws(6, double, double, 101, 202), notIn(6), 0, 8 + 2 + 6, to(2, 3), api.OK}, {laws(6, double, double, 101, 202), notIn(6), 4, 1 + 2 + 4, to(3, 3), api.OK},
		{laws(9, double, free, 101, 320), notIn(9), 0, 27, to(3, 3), api.OK}, {laws(4, double, double, 202), notIn(4), 4, 3, to(1, 3), api.OK}, {laws(4, double, double, 202), notIn(4), 0, 1, to(3, 3), api.OK},
		{laws(1001, free, double, allBeds(4)...), in(1001), 240, 1, to(3, 3), api.OK}, {laws(1001, free, master, allBeds(4)...), in(240), 240, 1, to(3, 3), api.OK}, {laws(1001, free, double, allBeds(4)...), in(240), 240, 0, to(0, 0), api.ErrNone},
	} {
		ways, darts, e := heard.Ways(c.l, c.s, c.score)
		if ways != c.ways || darts != c.darts || e != c.e {
			t.Error(i, ways, darts, e)
		}
	}
}

// compareVisits compares Visits and Ways, for all scores, with all lists of darts.
func compareVisits(t *testing.T, l api.HeardLeg, s api.HeardStand) (bust, won bool) {
	ways, darts := map[int]int{}, map[int]api.Span{}
	for _, v := range visitsByText(l, s) {
		if ways[v.score()] == 0 {
			darts[v.score()] = to(v.darts, v.darts)
		}
		ways[v.score()]++
		darts[v.score()] = to(min(darts[v.score()].Low, v.darts), max(darts[v.score()].High, v.darts))
		bust, won = bust || v.after == s && v.darts < 3, won || v.won()
	}
	var scores []int
	for score := range 241 {
		if ways[score] > 0 && score != s.Left {
			scores = append(scores, score)
		}
		want := api.OK
		if ways[score] == 0 {
			want = api.ErrNone
		}
		if n, span, e := heard.Ways(l, s, score); n != ways[score] || span != darts[score] || e != want {
			t.Fatal(l, s, score, n, span, e, ways[score], darts[score])
		}
	}
	got, wins, e := heard.Visits(l, s)
	if !slices.Equal(got, scores) || wins != won || e != api.OK {
		t.Fatal(l, s, got, wins, e, scores, won)
	}
	return bust, won
}

// P5.3 and P5.4: what is returned is what is found by trying all lists of darts.
func TestVisitsByText(t *testing.T) {
	r := rand.New(rand.NewPCG(1, 5))
	busts, wins, outside := 0, 0, 0
	for range 400 {
		l := randomLaws(r, 1+some(r, 3, 10, 60, 300))
		s := in(1 + r.IntN(l.Count.Start))
		if l.Count.Out != free {
			s.Left = max(s.Left, 2)
		}
		if l.Count.In != free && r.IntN(2) == 0 {
			s = notIn(l.Count.Start)
			outside++
		}
		bust, won := compareVisits(t, l, s)
		if bust {
			busts++
		}
		if won {
			wins++
		}
	}
	if busts < 50 || wins < 50 || outside < 50 {
		t.Error("too few visits are bust, win, or are of players who are not in:", busts, wins, outside)
	}
	for _, left := range []int{2, 3, 40, 61, 170, 180, 501} {
		compareVisits(t, usual(501), in(left))
	}
	compareVisits(t, laws(101, double, master, allBeds(4)...), notIn(101))
}

// P5.4: the ways of three visits that end 501 are the known number of nine darts.
func TestNineDarts(t *testing.T) {
	l := usual(501)
	ways := func(left, score int) int {
		n, _, _ := heard.Ways(l, in(left), score)
		return n
	}
	sum := 0
	for first := 151; first <= 180; first++ {
		for second := 151; second <= 180; second++ {
			last := 501 - first - second
			if last <= 180 {
				sum += ways(501, first) * ways(501-first, second) * ways(last, last)
			}
		}
	}
	if sum != 3944 {
		t.Error(sum)
	}
}

// R4: no argument is changed, and no results share memory.
func TestMemory(t *testing.T) {
	beds := append(example().Beds, 999)[:5]
	l := example()
	l.Beds = beds
	reports := append(said(say(1, -1, 44), say(3, 6, -1), say(0, 40, -1)), say(9, 9, 9))[:3]
	was := slices.Clone(reports[:4])
	heard.Check(l)
	visits, _, _ := heard.Visits(l, in(50))
	heard.Ways(l, in(50), 44)
	scores, lefts, darts, _ := heard.Truth(l, reports[1:])
	again := [][]api.Span{slices.Clone(scores), slices.Clone(lefts), slices.Clone(darts)}
	clear(visits)
	for i, l := range [][]api.Span{scores, lefts, darts} {
		if !slices.Equal(l, again[i]) {
			t.Error(i, l)
		}
		clear(l[:cap(l)])
	}
	blame, _ := heard.Blame(l, reports)
	drop, _ := heard.Drop(l, reports)
	for _, sets := range [][][]int{blame, drop} {
		for _, set := range sets {
			clear(set[:cap(set)])
		}
	}
	if !slices.Equal(drop[0], []int{0}) || !slices.Equal(drop[1], []int{0}) || !slices.Equal(blame[0], []int{0, 0}) {
		t.Error(blame, drop)
	}
	if !slices.Equal(beds[:6], append(example().Beds, 999)) || !slices.Equal(reports[:4], was) {
		t.Error(beds[:6], reports[:4])
	}
}
