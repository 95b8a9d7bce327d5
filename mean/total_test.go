package mean_test

import (
	"math/rand/v2"
	"slices"
	"testing"

	"oche/api"
	"oche/mean"
)

// sums returns what Totals and First return, which have the same errors.
func sums(t *testing.T, l []api.MeanLeg) (all, first api.MeanTotal, at int, e api.Errno) {
	all, at, e = mean.Totals(l)
	first, i, f := mean.First(l)
	if i != at || f != e {
		t.Error(l, at, i, e, f)
	}
	return all, first, at, e
}

// P6.4 and P6.5: what legs come to, with all visits, and with the first three of each.
func TestTotals(t *testing.T) {
	quads := leg(count(1001, free, double), allBeds(4)...)
	for i, c := range []struct {
		l           []api.MeanLeg
		want, first api.MeanTotal
	}{
		{nil, api.MeanTotal{}, api.MeanTotal{}}, {legs(), api.MeanTotal{}, api.MeanTotal{}}, {legs(plain()), api.MeanTotal{Legs: 1}, api.MeanTotal{Legs: 1}}, {legs(plain(), usual(2), plain()), api.MeanTotal{Legs: 3}, api.MeanTotal{Legs: 3}},
		{legs(example()), api.MeanTotal{Legs: 1, Won: 1, Visits: 3, Points: 101, Darts: to(5, 9), Tried: to(2, 7), Best: 40}, api.MeanTotal{Legs: 1, Won: 1, Visits: 3, Points: 101, Darts: to(5, 9), Tried: to(2, 7), Best: 40}},
		// Three visits are the first ones, and all if there are fewer.
		{legs(scored(usual(501), 26, 45)), api.MeanTotal{Legs: 1, Visits: 2, Points: 71, Darts: one(6)}, api.MeanTotal{Legs: 1, Visits: 2, Points: 71, Darts: one(6)}}, {legs(scored(usual(501), 26, 45, 60, 100)), api.MeanTotal{Legs: 1, Visits: 4, Points: 231, Darts: one(12), Tons: 1}, api.MeanTotal{Legs: 1, Visits: 3, Points: 131, Darts: one(9)}},
		{legs(won(usual(501), 180, 180, 141)), api.MeanTotal{Legs: 1, Won: 1, Visits: 3, Points: 501, Darts: one(9), Tried: to(1, 1), Tons: 3, Highs: 3, Tops: 2, Best: 141}, api.MeanTotal{Legs: 1, Won: 1, Visits: 3, Points: 501, Darts: one(9), Tried: to(1, 1), Tons: 3, Highs: 3, Tops: 2, Best: 141}},
		{legs(won(usual(501), 180, 180, 0, 141)), api.MeanTotal{Legs: 1, Won: 1, Visits: 4, Points: 501, Darts: one(12), Tried: to(1, 2), Tons: 3, Highs: 3, Tops: 2, Best: 141}, api.MeanTotal{Legs: 1, Visits: 3, Points: 360, Darts: one(9), Tried: to(0, 1), Tons: 2, Highs: 2, Tops: 2}},
		// Scores around 100, 140 and 180, where only 180 itself is a top one.
		{legs(scored(quads, 99, 100, 101)), api.MeanTotal{Legs: 1, Visits: 3, Points: 300, Darts: one(9), Tons: 2}, api.MeanTotal{Legs: 1, Visits: 3, Points: 300, Darts: one(9), Tons: 2}}, {legs(scored(quads, 139, 140, 141)), api.MeanTotal{Legs: 1, Visits: 3, Points: 420, Darts: one(9), Tons: 3, Highs: 2}, api.MeanTotal{Legs: 1, Visits: 3, Points: 420, Darts: one(9), Tons: 3, Highs: 2}}, {legs(scored(quads, 177, 180, 184, 240)), api.MeanTotal{Legs: 1, Visits: 4, Points: 781, Darts: one(12), Tons: 4, Highs: 4, Tops: 1}, api.MeanTotal{Legs: 1, Visits: 3, Points: 541, Darts: one(9), Tons: 3, Highs: 3, Tops: 1}},
		// Best is the greatest score that won, wherever it stands.
		{legs(won(usual(40), 40), won(usual(170), 170), won(usual(2), 2), scored(usual(501), 180)), api.MeanTotal{Legs: 4, Won: 3, Visits: 4, Points: 392, Darts: to(8, 12), Tried: to(3, 7), Tons: 2, Highs: 2, Tops: 1, Best: 170}, api.MeanTotal{Legs: 4, Won: 3, Visits: 4, Points: 392, Darts: to(8, 12), Tried: to(3, 7), Tons: 2, Highs: 2, Tops: 1, Best: 170}},
	} {
		all, first, at, e := sums(t, c.l)
		if all != c.want || first != c.first || at != 0 || e != api.OK {
			t.Error(i, all, first, at, e)
		}
	}
}

// P6.4 and P6.5: as many legs as there can be, and more, which comes first.
func TestTooManyLegs(t *testing.T) {
	l := slices.Repeat(legs(example()), 200)
	all, first, at, e := sums(t, l)
	if want := (api.MeanTotal{Legs: 200, Won: 200, Visits: 600, Points: 20200, Darts: to(1000, 1800), Tried: to(400, 1400), Best: 40}); all != want || first != want || at != 0 || e != api.OK {
		t.Error(all, first, at, e)
	}
	for i, l := range [][]api.MeanLeg{append(l, example()), make([]api.MeanLeg, 201), slices.Repeat(legs(scored(plain(), 7)), 201), make([]api.MeanLeg, 10000)} {
		if all, first, at, e := sums(t, l); all != (api.MeanTotal{}) || first != all || at != 0 || e != api.ErrLong {
			t.Error(i, all, first, at, e)
		}
	}
}

// P6.4 and P6.5: the first leg that is wrong is named, whatever is wrong with it, also after its first three visits.
func TestWrongInLegs(t *testing.T) {
	invalid, never := api.MeanLeg{}, scored(plain(), 61, 41)
	late := won(plain(), 20, 20, 20, 1, 41)
	for i, c := range []struct {
		l  []api.MeanLeg
		at int
		e  api.Errno
	}{
		{legs(invalid, never), 0, api.ErrArg}, {legs(never, invalid), 0, api.ErrNone}, {legs(example(), never, invalid), 1, api.ErrNone}, {legs(example(), plain(), invalid, never), 2, api.ErrArg}, {legs(late), 0, api.ErrNone}, {legs(example(), example(), late), 2, api.ErrNone}, {append(slices.Repeat(legs(example()), 199), late), 199, api.ErrNone}, {append(slices.Repeat(legs(example()), 199), invalid), 199, api.ErrArg}, {make([]api.MeanLeg, 200), 0, api.ErrArg},
	} {
		if all, first, at, e := sums(t, c.l); all != (api.MeanTotal{}) || first != all || at != c.at || e != c.e {
			t.Error(i, all, first, at, e)
		}
	}
}

// P6.4 and P6.5: what is returned is what is found by going through all lists of darts.
func TestTotalsByText(t *testing.T) {
	r := rand.New(rand.NewPCG(2, 6))
	never := 0
	for range 1000 {
		var l []api.MeanLeg
		var want, wantFirst api.MeanTotal
		wantAt, f := 0, api.OK
		for i := range r.IntN(5) {
			one := randomLeg(r)
			l = append(l, one)
			if f != api.OK {
				continue
			}
			possible, _, g := possibleByText(one)
			if g != api.OK {
				want, wantFirst, wantAt, f = api.MeanTotal{}, api.MeanTotal{}, i, g
				continue
			}
			want, wantFirst = plus(want, totalByText(one, possible, 100)), plus(wantFirst, totalByText(one, possible, 3))
		}
		all, first, at, e := sums(t, l)
		if all != want || first != wantFirst || at != wantAt || e != f {
			t.Fatal(l, all, first, at, e, want, wantFirst, wantAt, f)
		}
		if f != api.OK {
			never++
		}
	}
	if never < 100 || never > 600 {
		t.Error("too few or too many legs are not possible:", never)
	}
}

// P6.4: as many legs and visits as there can be, with all beds, of which no two in a row are the same.
func TestMostOfAll(t *testing.T) {
	var scores []int
	for number := range 100 {
		scores = append(scores, number%2*2)
	}
	l := slices.Repeat(legs(scored(leg(count(300, free, double), allBeds(4)...), scores...)), 200)
	total, at, e := mean.Totals(l)
	if total.Legs != 200 || total.Visits != 20000 || total.Points != 20000 || total.Darts.High != 60000 || at != 0 || e != api.OK {
		t.Error(total, at, e)
	}
}
