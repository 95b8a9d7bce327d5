package duel_test

import (
	"math/rand/v2"
	"slices"
	"testing"

	"oche/api"
	"oche/duel"
)

// P9.3 to P9.5: means of all aims, the first of the best ones, and those that may be the best ones.
func TestAim(t *testing.T) {
	two := example(one(500000))
	three := rules(4, 1, spans(one(500000)), half(201), half(202), wild(202))
	doubles := rules(6, 1, nil, sure(101), sure(201), sure(202), sure(201))
	for i, c := range []struct {
		r    api.DuelRules
		p    api.DuelPosition
		odds []api.Span
		aim  int
		may  []int
	}{
		{two, at(1, 2, 2, 1), spans(one(500000)), 0, ints(0)}, {two, at(1, 2, 2, 2), spans(one(750000)), 0, ints(0)}, {two, at(1, 2, 2, 3), spans(one(875000)), 0, ints(0)},
		{two, at(0, 2, 2, 1), spans(one(718750)), 0, ints(0)}, {two, at(0, 2, 2, 2), spans(one(859375)), 0, ints(0)}, {two, at(0, 2, 2, 3), spans(to(929687, 929688)), 0, ints(0)},
		// Only what the opponent does after this visit counts.
		{example(one(0), one(500000)), at(1, 2, 2, 3), spans(to(929687, 929688)), 0, ints(0)}, {example(to(0, 500000)), at(0, 2, 2, 1), spans(to(718750, 937500)), 0, ints(0)},
		// What was left before the visit is left after a bust dart: 4 is won less likely than 2.
		{three, at(1, 4, 4, 1), spans(one(0), one(500000), to(0, whole)), 1, ints(1, 2)}, {three, at(1, 4, 2, 1), spans(one(500000), one(0), one(0)), 0, ints(0)}, {three, at(0, 4, 2, 1), spans(one(718750), to(437500, 468750), to(437500, 500000)), 0, ints(0)},
		{three, at(1, 3, 3, 1), spans(one(0), one(0), one(0)), 0, ints(0, 1, 2)},
		// Of equal aims the first one is listed, and all may be the best ones.
		{doubles, at(0, 2, 2, 1), spans(one(0), one(whole), one(0), one(whole)), 1, ints(1, 3)}, {doubles, at(0, 6, 6, 2), spans(one(0), one(whole), one(whole), one(whole)), 1, ints(1, 2, 3)}, {doubles, at(0, 6, 6, 1), spans(one(0), one(0), one(0), one(0)), 0, ints(0, 1, 2, 3)},
		// An aim whose High is just the greatest Low may be the best one, and one with less may not.
		{rules(2, 1, nil, throws(201, lands(0, 1, 2), lands(201, 0, 1)), half(201)), at(0, 2, 2, 1), spans(to(0, 500000), one(500000)), 1, ints(0, 1)}, {rules(2, 1, nil, wild(101), half(201)), at(0, 2, 2, 1), spans(one(0), one(500000)), 1, ints(1)},
		// Rounded, dart by dart: a third, and what is missing of two thirds.
		{api.DuelRules{Law: api.ThrowLaw{Den: 3, Aims: []api.ThrowAim{throws(201, lands(0, 2, 2), lands(201, 1, 1))}}, Start: 2, Out: 1, Ends: spans(one(whole))}, at(0, 2, 2, 1), spans(to(333333, 333334)), 0, ints(0)},
	} {
		odds, e := duel.Odds(c.r, c.p)
		best, low, f := duel.Aim(c.r, c.p)
		may, g := duel.May(c.r, c.p)
		if !slices.Equal(odds, c.odds) || best != c.aim || low != c.odds[c.aim].Low || !slices.Equal(may, c.may) || e != api.OK || f != api.OK || g != api.OK {
			t.Error(i, odds, best, low, may, e, f, g)
		}
	}
}

// P9.3 to P9.5: positions that are valid, and those that are not.
func TestPositions(t *testing.T) {
	for gate := range api.Gate(3) {
		r := rules(4, gate, spans(one(5)), half(201), sure(101))
		fine := map[api.DuelPosition]bool{}
		for p := range positions(r) {
			fine[p] = true
		}
		around := append(numbers()[2:12], numbers()[len(numbers())-1])
		for _, round := range numbers() {
			for _, start := range around {
				for _, left := range around {
					for _, darts := range around {
						p, want, aims := at(round, start, left, darts), api.ErrArg, 0
						if fine[p] {
							want, aims = api.OK, 2
						}
						odds, e := duel.Odds(r, p)
						best, low, f := duel.Aim(r, p)
						may, g := duel.May(r, p)
						if len(odds) != aims || e != want || f != want || g != want || !fine[p] && (best != 0 || low != 0 || len(may) > 0) {
							t.Fatal(gate, p, odds, best, low, may, e, f, g)
						}
					}
				}
			}
		}
	}
	for _, n := range numbers() {
		for _, p := range []api.DuelPosition{at(n, 2, 2, 3), at(0, n, n, 3), at(0, 2, n, 2), at(0, 2, 2, n)} {
			r := example(one(5))
			fine := slices.Contains(slices.Collect(positions(r)), p)
			if _, e := duel.Odds(r, p); fine != (e == api.OK) || !fine && e != api.ErrArg {
				t.Error(p, e)
			}
		}
	}
}

// P9.3 to P9.5: all positions of random laws, by the text.
func TestPositionsByText(t *testing.T) {
	r := rand.New(rand.NewPCG(7, 8))
	several := 0
	for range 100 {
		l := randomRules(r, 4, 7, 4, 4, 4)
		low, high, _ := duel.Table(l)
		least, most := byText(l, low, false), byText(l, high, true)
		for p := range positions(l) {
			lows, highs := least.means(p), most.means(p)
			odds := make([]api.Span, len(lows))
			var may []int
			for i := range odds {
				odds[i] = to(lows[i], highs[i])
				if highs[i] >= slices.Max(lows) {
					may = append(may, i)
				}
			}
			if len(may) > 1 {
				several++
			}
			if got, e := duel.Odds(l, p); !slices.Equal(got, odds) || e != api.OK {
				t.Fatal(l, p, got, e, odds)
			}
			if best, number, e := duel.Aim(l, p); best != slices.Index(lows, slices.Max(lows)) || number != slices.Max(lows) || e != api.OK {
				t.Fatal(l, p, best, number, e, odds)
			}
			if got, e := duel.May(l, p); !slices.Equal(got, may) || e != api.OK {
				t.Fatal(l, p, got, e, odds)
			}
		}
	}
	if several < 500 {
		t.Error(several)
	}
}
