package mean_test

import (
	"math"
	"math/rand/v2"
	"slices"
	"testing"

	"oche/api"
	"oche/mean"
)

// wrongLegs returns legs that are not valid.
func wrongLegs() map[string]api.MeanLeg {
	wrong := map[string]api.MeanLeg{"nothing": {}, "won without a visit": won(plain()), "won with an empty list": won(plain(), scores()...), "101 scores": scored(plain(), make([]int, 101)...), "many scores": scored(plain(), make([]int, 5000)...)}
	for name, beds := range map[string][]api.Bed{
		"no beds": nil, "an empty list": {}, "a miss": {0}, "a miss before": {0, 101}, "a bed twice": {101, 101}, "descending": {201, 101}, "descending at the end": {101, 220, 219}, "no bed": {121}, "a treble bull": {325}, "a factor too much": {101, 501}, "a bed below 0": {-101}, "least": {math.MinInt, 101}, "greatest": {101, math.MaxInt}, "82 misses": make([]api.Bed, 82), "82 with a wrong one": append(allBeds(4)[1:], 421), "83 misses": make([]api.Bed, 83), "83 beds": append(allBeds(4), 421),
	} {
		l := example()
		l.Beds = beds
		wrong[name] = l
	}
	for name, start := range map[string]int{"least start": math.MinInt, "start -2": -2, "start 0": 0, "start 1": 1, "start 1002": 1002, "greatest start": math.MaxInt} {
		l := example()
		l.Count.Start = start
		wrong[name] = l
	}
	for name, gate := range map[string]api.Gate{"least": math.MinInt, "-1": -1, "3": 3, "greatest": math.MaxInt} {
		in, out := example(), example()
		in.Count.In, out.Count.Out = gate, gate
		wrong["gate in "+name], wrong["gate out "+name] = in, out
	}
	for name, score := range map[string]int{"score -1": -1, "least score": math.MinInt} {
		wrong[name], wrong[name+" first"], wrong[name+" last"] = won(plain(), 61, score, 40), scored(plain(), score), won(plain(), 61, 40, score)
	}
	return wrong
}

// P6.1: legs that are valid, up to all limits.
func TestCheck(t *testing.T) {
	most := scored(leg(count(1001, master, master), allBeds(4)...), make([]int, 100)...)
	if len(most.Beds) != 82 {
		t.Fatal(len(most.Beds))
	}
	for i, l := range []api.MeanLeg{
		example(), plain(), most, won(most, most.Scores...), scored(leg(count(2, free, free), 101), scores()...), won(leg(count(2, double, double), 420), 0), scored(usual(501), 0, 1, 180),
		// What is not possible is valid all the same.
		won(plain(), math.MaxInt), scored(plain(), 61, 41), scored(plain(), math.MaxInt, math.MaxInt, math.MaxInt), won(plain(), 40, 61, 0),
	} {
		if e := mean.Check(l); e != api.OK {
			t.Error(i, e)
		}
	}
}

// P6.1 to P6.5: what is wrong with a leg comes first, and there is nothing with it.
func TestWrongLegs(t *testing.T) {
	for name, l := range wrongLegs() {
		if e := mean.Check(l); e != api.ErrArg {
			t.Error(name, e)
		}
		if visits, at, e := mean.Visits(l); visits != nil || at != 0 || e != api.ErrArg {
			t.Error(name, visits, at, e)
		}
		for _, end := range append(ends(), -1, 0, 5) {
			if shown, at, e := mean.Show(l, end); shown != nil || at != 0 || e != api.ErrArg {
				t.Error(name, end, shown, at, e)
			}
		}
		for at, many := range [][]api.MeanLeg{legs(l, example()), legs(example(), l), legs(plain(), example(), l, l)} {
			a, i, e := mean.Totals(many)
			b, j, f := mean.First(many)
			if a != (api.MeanTotal{}) || b != a || i != at || j != at || e != api.ErrArg || f != api.ErrArg {
				t.Error(name, at, a, b, i, j, e, f)
			}
		}
	}
}

// P6.2: how many darts each visit can have, and how many of them at a finish.
func TestVisits(t *testing.T) {
	for i, c := range []struct {
		l    api.MeanLeg
		want []api.MeanVisit
	}{
		{example(), spans(visit(one(3), to(0, 1)), visit(to(1, 3), to(1, 3)), visit(to(1, 3), to(1, 3)))},
		{plain(), nil}, {scored(plain(), scores()...), nil}, {scored(plain(), 61), spans(visit(one(3), to(0, 1)))}, {scored(plain(), 61, 0, 0), spans(visit(one(3), to(0, 1)), visit(to(1, 3), to(1, 3)), visit(to(1, 3), to(1, 3)))},
		// From high scores nothing is tried, and nothing is bust.
		{scored(usual(501), 180, 0, 1), spans(visit(one(3), one(0)), visit(one(3), one(0)), visit(one(3), one(0)))}, {scored(usual(182), 180), spans(visit(one(3), one(0)))}, {scored(usual(182), 0), spans(visit(one(3), one(0)))}, {scored(leg(count(1001, free, double), 420), 240), spans(visit(one(3), one(0)))},
		// Bust is the third dart at the earliest, the second one, or the first one.
		{scored(usual(181), 0), spans(visit(one(3), one(0)))}, {scored(usual(121), 0), spans(visit(to(2, 3), to(0, 1)))}, {scored(usual(62), 0), spans(visit(to(2, 3), to(0, 2)))}, {scored(usual(61), 0), spans(visit(to(1, 3), to(0, 2)))},
		{scored(leg(count(6, free, double), 102), 0), spans(visit(one(3), one(0)))}, {scored(leg(count(4, free, double), 102), 0), spans(visit(to(2, 3), one(0)))}, {scored(leg(count(2, free, double), 101), 0), spans(visit(to(1, 3), one(0)))}, {scored(leg(count(2, free, double), 101, 201), 0), spans(visit(to(1, 3), to(1, 3)))},
		// All darts miss if each other one would win.
		{scored(leg(count(2, free, double), 201), 0), spans(visit(one(3), one(3)))},
		// The last dart wins, with misses before it as there is room for them.
		{won(usual(170), 170), spans(visit(one(3), one(1)))}, {won(usual(110), 110), spans(visit(to(2, 3), to(1, 2)))}, {won(usual(50), 50), spans(visit(to(1, 3), to(1, 3)))}, {won(usual(3), 3), spans(visit(to(2, 3), to(1, 2)))}, {won(usual(2), 2), spans(visit(to(1, 3), to(1, 3)))}, {won(leg(count(240, free, master), 420), 240), spans(visit(one(3), one(1)))},
		// With GateAny 1 can be left, and only the single 1 ends it.
		{won(leg(count(3, free, free), 101, 102), 2, 1), spans(visit(one(3), to(0, 2)), visit(to(1, 3), to(1, 3)))}, {scored(leg(count(3, free, free), 102), 2, 0), spans(visit(one(3), one(0)), visit(to(1, 3), one(0)))},
		// Who is not in wins only with a bed that opens both gates.
		{scored(leg(count(4, double, double), 101, 202, 401), 0), spans(visit(one(3), one(3)))}, {scored(leg(count(4, double, free), 104), 0), spans(visit(one(3), one(0)))}, {won(leg(count(4, master, double), 202, 401), 4), spans(visit(to(1, 3), to(1, 3)))},
		// Who comes in and is bust in the same visit has not come in.
		{scored(leg(count(4, double, free), 104, 201), 0, 0), spans(visit(to(2, 3), to(0, 2)), visit(to(2, 3), to(0, 2)))}, {scored(leg(count(6, master, double), 103, 301), 0, 3, 0), spans(visit(to(2, 3), one(0)), visit(one(3), one(0)), visit(to(1, 3), one(0)))},
		{won(leg(count(6, double, double), 101, 201, 202), 0, 4, 0, 2), spans(visit(to(2, 3), to(0, 2)), visit(one(3), to(0, 2)), visit(to(1, 3), to(1, 3)), visit(to(1, 3), to(1, 3)))},
	} {
		got, at, e := mean.Visits(c.l)
		if !slices.Equal(got, c.want) || at != 0 || e != api.OK {
			t.Error(i, got, at, e)
		}
	}
}

// P6.2 to P6.5: visits that are not possible, of which the first one is named.
func TestNotPossible(t *testing.T) {
	for i, c := range []struct {
		l  api.MeanLeg
		at int
	}{
		// No darts have the score, or they would leave 1 or be bust.
		{scored(plain(), 61, 41), 1}, {scored(plain(), 7), 0}, {scored(plain(), 181), 0}, {scored(plain(), 100), 0}, {scored(plain(), 100, 0), 0}, {scored(plain(), 20, 20, 20, 20, 7), 4}, {scored(plain(), 61, 0, 44), 2}, {scored(plain(), 7, 7, 7), 0}, {scored(leg(count(4, free, free), 101), 1, 3), 1}, {won(leg(count(4, free, double), 104), 4), 0}, {won(leg(count(4, free, master), 104), 4), 0},
		// Who scores what is left has won, and nobody else has.
		{scored(plain(), 61, 40), 1}, {scored(plain(), 101), 0}, {won(plain(), 61), 0}, {won(plain(), 61, 0), 1}, {won(plain(), 61, 0, 2), 2}, {won(plain(), 0), 0},
		// Only the last visit wins.
		{won(plain(), 61, 40, 0), 1}, {won(plain(), 61, 40, 40), 1}, {won(plain(), 61, 0, 40, 0), 2}, {scored(plain(), 101, 0), 0},
		// Who is not in scores only from a bed on that opens the gate.
		{scored(leg(count(9, double, free), 103, 202), 3), 0}, {scored(leg(count(9, double, free), 103, 202), 0, 3), 1}, {won(leg(count(4, double, free), 104), 4), 0}, {won(leg(count(4, double, double), 402), 4), 0}, {scored(leg(count(20, master, free), 101), 0, 0, 1), 2},
		// More than there is.
		{scored(plain(), math.MaxInt), 0}, {won(plain(), math.MaxInt), 0}, {scored(plain(), 0, 0, math.MaxInt, math.MaxInt, math.MaxInt), 2}, {won(plain(), 61, 102), 1}, {scored(plain(), 61, math.MaxInt, 0), 1},
	} {
		visits, at, e := mean.Visits(c.l)
		if visits != nil || at != c.at || e != api.ErrNone {
			t.Error(i, visits, at, e)
		}
		for _, end := range ends() {
			if shown, at, e := mean.Show(c.l, end); shown != nil || at != c.at || e != api.ErrNone {
				t.Error(i, end, shown, at, e)
			}
		}
		for at, l := range [][]api.MeanLeg{legs(c.l), legs(example(), c.l, c.l), legs(plain(), example(), c.l, api.MeanLeg{})} {
			a, j, e := mean.Totals(l)
			b, k, f := mean.First(l)
			if a != (api.MeanTotal{}) || b != a || j != at || k != at || e != api.ErrNone || f != api.ErrNone {
				t.Error(i, a, b, j, k, e, f)
			}
		}
	}
}

// P6.3: the visits that are shown for each end, in its order: few and many darts, few and many at a finish.
func TestShow(t *testing.T) {
	for i, c := range []struct {
		l    api.MeanLeg
		want [4][][]api.Bed
	}{
		{example(), [4][][]api.Bed{lists(list(0, 101, 320), list(320), list(220)), lists(list(0, 101, 320), list(0, 0, 0), list(0, 0, 220)), lists(list(0, 101, 320), list(320), list(220)), lists(list(101, 320, 0), list(0, 0, 0), list(0, 0, 220))}}, {plain(), [4][][]api.Bed{}},
		// The smallest one is found bed by bed.
		{scored(usual(501), 26), [4][][]api.Bed{lists(list(0, 0, 213)), lists(list(0, 0, 213)), lists(list(0, 0, 213)), lists(list(0, 0, 213))}}, {scored(usual(501), 24), [4][][]api.Bed{lists(list(0, 0, 212)), lists(list(0, 0, 212)), lists(list(0, 0, 212)), lists(list(0, 0, 212))}}, {scored(usual(501), 61), [4][][]api.Bed{lists(list(0, 101, 320)), lists(list(0, 101, 320)), lists(list(0, 101, 320)), lists(list(0, 101, 320))}}, {scored(usual(501), 121), [4][][]api.Bed{lists(list(101, 320, 320)), lists(list(101, 320, 320)), lists(list(101, 320, 320)), lists(list(101, 320, 320))}},
		// Of those with as few, or as many, darts at a finish it is the one with the fewest darts.
		{scored(leg(count(2, free, double), 101), 0), [4][][]api.Bed{lists(list(101)), lists(list(0, 0, 0)), lists(list(101)), lists(list(101))}}, {scored(usual(62), 0), [4][][]api.Bed{lists(list(101, 320)), lists(list(0, 0, 0)), lists(list(101, 320)), lists(list(112, 0, 317))}}, {won(usual(3), 3), [4][][]api.Bed{lists(list(101, 201)), lists(list(0, 101, 201)), lists(list(101, 201)), lists(list(101, 0, 201))}}, {won(usual(6), 6), [4][][]api.Bed{lists(list(203)), lists(list(0, 0, 203)), lists(list(203)), lists(list(0, 0, 203))}},
		{scored(leg(count(4, double, free), 104, 201), 0), [4][][]api.Bed{lists(list(201, 104)), lists(list(0, 0, 0)), lists(list(0, 0, 0)), lists(list(201, 0, 104))}}, {scored(leg(count(4, double, double), 101, 202, 401), 0), [4][][]api.Bed{lists(list(0, 0, 0)), lists(list(0, 0, 0)), lists(list(0, 0, 0)), lists(list(0, 0, 0))}},
		{won(leg(count(3, double, free), 101, 201), 0, 2, 1), [4][][]api.Bed{lists(list(201, 201), list(0, 0, 201), list(101)), lists(list(0, 0, 0), list(0, 0, 201), list(0, 0, 101)), lists(list(0, 0, 0), list(0, 0, 201), list(101)), lists(list(201, 0, 201), list(201, 0, 0), list(0, 0, 101))}},
	} {
		for which, end := range ends() {
			got, at, e := mean.Show(c.l, end)
			if !sameLists(got, c.want[which]) || at != 0 || e != api.OK {
				t.Error(i, end, got, at, e)
			}
		}
	}
}

// P6.3: an end that is none comes before visits that are not possible.
func TestWrongEnds(t *testing.T) {
	for _, end := range []api.MeanEnd{math.MinInt, -1, 0, 5, 6, math.MaxInt} {
		for i, l := range []api.MeanLeg{example(), plain(), scored(plain(), 61, 41), won(plain(), 61)} {
			if shown, at, e := mean.Show(l, end); shown != nil || at != 0 || e != api.ErrRange {
				t.Error(end, i, shown, at, e)
			}
		}
	}
}

// P6.2 and P6.3: what is returned is what is found by going through all lists of darts.
func TestVisitsByText(t *testing.T) {
	r := rand.New(rand.NewPCG(1, 6))
	never, open, apart := 0, 0, 0
	for range 3000 {
		l := randomLeg(r)
		possible, wantAt, want := possibleByText(l)
		got, at, e := mean.Visits(l)
		if !slices.Equal(got, spansByText(possible)) || at != wantAt || e != want {
			t.Fatal(l, got, at, e, wantAt, want)
		}
		for _, end := range ends() {
			if shown, at, e := mean.Show(l, end); !sameLists(shown, shownByText(possible, end)) || at != wantAt || e != want {
				t.Fatal(l, end, shown, at, e)
			}
		}
		if want != api.OK {
			never++
		}
		for _, v := range got {
			if v.Darts.Low < v.Darts.High && v.Tried.Low < v.Tried.High {
				open++
			}
			if v.Tried.Low > 0 && v.Tried.Low < v.Tried.High && v.Tried.High < v.Darts.High {
				apart++
			}
		}
	}
	if never < 200 || open < 1000 || apart < 100 {
		t.Error("too few legs are not possible, too few visits have open spans, or such as are not those of the darts:", never, open, apart)
	}
}
