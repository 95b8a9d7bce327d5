package heard_test

import (
	"math/rand/v2"
	"slices"
	"testing"

	"oche/api"
	"oche/heard"
)

// sets returns its arguments.
func sets(l ...[]int) [][]int { return l }

// set returns its arguments.
func set(numbers ...int) []int { return numbers }

// P5.6 and P5.7: which reports cannot all be right, and without which the others can.
func TestBlameAndDrop(t *testing.T) {
	eyes := played(laws(50, free, double, 225), 1, 3, true)
	for i, c := range []struct {
		l           api.HeardLeg
		reports     []api.HeardReport
		blame, drop [][]int
	}{
		{example(), said(say(1, -1, 44), say(3, 6, -1), say(0, 40, -1)), sets(set(0, 1)), sets(set(0), set(1))},
		// All can be right, also if nothing is said.
		{example(), nil, nil, sets(nil)}, {example(), said(), nil, sets(nil)}, {example(), said(say(0, -1, -1), say(3, -1, -1)), nil, sets(nil)}, {example(), said(say(1, -1, 44), say(3, 44, 0)), nil, sets(nil)}, {played(example(), 1, 0, false), nil, nil, sets(nil)},
		// A report that is wrong by itself is blamed alone, but those that clash without it must be dropped too.
		{example(), said(say(0, 25, -1)), sets(set(0)), sets(set(0))}, {example(), said(say(0, 40, -1), say(0, 41, -1), say(0, 40, 11)), sets(set(2)), sets(set(0, 2), set(1, 2))}, {example(), said(say(2, -1, 0), say(0, 40, -1), say(3, 0, -1)), sets(set(0), set(2)), sets(set(0, 2))},
		// Sets of different players, and of one.
		{example(), said(say(1, 44, -1), say(0, 40, -1), say(0, 41, -1), say(3, 44, -1)), sets(set(0, 3), set(1, 2)), sets(set(0, 1), set(0, 2), set(1, 3), set(2, 3))}, {example(), said(say(0, 1, -1), say(0, 2, -1), say(0, 3, -1)), sets(set(0, 1), set(0, 2), set(1, 2)), sets(set(0, 1), set(0, 2), set(1, 2))},
		// Three visits score 9 in all: of three reports each two can be right.
		{played(laws(9, free, free, 103), 1, 3, true), said(say(0, 0, -1), say(1, 0, -1), say(2, 3, -1)), sets(set(0, 1, 2)), sets(set(0), set(1), set(2))}, {played(laws(9, free, free, 103), 1, 3, true), said(say(2, 3, -1), say(0, 0, -1), say(1, 0, -1), say(1, 0, 9)), sets(set(0, 3)), sets(set(0))}, {played(laws(4, free, free, 101), 1, 3, true), said(say(0, 2, -1), say(1, 0, -1), say(2, 3, -1)), sets(set(0, 2)), sets(set(0), set(2))},
		// If there is no truth, nothing that is said is to blame.
		{played(eyes, 1, 3, false), nil, nil, sets(nil)}, {eyes, said(say(2, 50, 0), say(1, 0, 50)), nil, sets(nil)}, {eyes, said(say(1, 50, 0), say(0, -1, 0), say(2, 50, -1)), sets(set(0), set(1)), sets(set(0, 1))},
		{played(laws(50, free, double, 201), 1, 3, true), nil, sets(nil), nil}, {played(laws(50, free, double, 201), 4, 3, true), said(say(0, 2, -1), say(0, 3, -1), say(1, -1, -1)), sets(nil), nil},
		// As many reports as there can be.
		{example(), slices.Repeat(said(say(0, 40, 10)), 10), nil, sets(nil)}, {example(), append(slices.Repeat(said(say(0, 40, 10)), 9), say(0, 41, -1)), sets(set(0, 9), set(1, 9), set(2, 9), set(3, 9), set(4, 9), set(5, 9), set(6, 9), set(7, 9), set(8, 9)), sets(set(9))}, {example(), slices.Repeat(said(say(0, 25, -1)), 10), sets(set(0), set(1), set(2), set(3), set(4), set(5), set(6), set(7), set(8), set(9)), sets(set(0, 1, 2, 3, 4, 5, 6, 7, 8, 9))},
	} {
		blame, e := heard.Blame(c.l, c.reports)
		drop, f := heard.Drop(c.l, c.reports)
		want := api.OK
		if c.drop == nil {
			want = api.ErrState
		}
		if !sameSets(blame, c.blame) || !sameSets(drop, c.drop) || e != api.OK || f != want {
			t.Error(i, blame, drop, e, f)
		}
	}
}

// tightLeg returns a leg that is won with few scores, all of its truths, and a report of the score of each turn.
func tightLeg(r *rand.Rand) (api.HeardLeg, [][]thrown, []api.HeardReport) {
	for {
		l := played(laws(2+r.IntN(20), free, some(r, free, double), some(r, list(101), list(102), list(103), list(104, 105), list(201, 203), list(102, 202))...), 1+r.IntN(2), 3+r.IntN(4), true)
		truths, ok := truthsByText(l, 3000)
		if !ok || len(truths) == 0 {
			continue
		}
		var reports []api.HeardReport
		for turn := range l.Turns {
			one := truths[r.IntN(len(truths))]
			reports = append(reports, say(turn, one[turn].score(), -1))
		}
		r.Shuffle(len(reports), func(i, j int) { reports[i], reports[j] = reports[j], reports[i] })
		return l, truths, reports
	}
}

// P5.6 and P5.7: what is returned is what is found by going through all sets and all truths.
func TestBlameAndDropByText(t *testing.T) {
	r := rand.New(rand.NewPCG(3, 5))
	sizes, drops, never := map[int]int{}, map[int]int{}, 0
	for i := range 6000 {
		l, truths := randomLeg(r)
		reports := randomReports(r, l, truths, some(r, 3, 6, 8))
		if i%3 == 0 {
			l, truths, reports = tightLeg(r)
		}
		blame, e := heard.Blame(l, reports)
		if want := blameByText(truths, reports); !sameSets(blame, want) || e != api.OK {
			t.Fatal(l, reports, blame, want, e)
		}
		drop, e := heard.Drop(l, reports)
		want, f := dropByText(truths, reports)
		if !sameSets(drop, want) || e != f {
			t.Fatal(l, reports, drop, want, e)
		}
		if f != api.OK {
			never++
			continue
		}
		if len(blame) > 0 {
			sizes[len(blame[0])]++
		}
		drops[len(drop[0])]++
	}
	if never < 20 || sizes[1] < 200 || sizes[2] < 200 || sizes[3] < 50 || sizes[4] < 10 || drops[0] < 200 || drops[1] < 200 || drops[2] < 200 || drops[3] < 50 {
		t.Error("too few legs of a kind:", never, sizes, drops)
	}
}

// P5.6 and P5.7: ten reports, of which each nine can be right, of the longest leg.
func TestTenReports(t *testing.T) {
	l := played(laws(1001, free, double, allBeds(4)...), 1, 60, true)
	var reports []api.HeardReport
	for i := range 9 {
		reports = append(reports, say(6*i, 100, -1))
	}
	reports = append(reports, say(59, 102, -1))
	all := set(0, 1, 2, 3, 4, 5, 6, 7, 8, 9)
	blame, e := heard.Blame(l, reports)
	drop, f := heard.Drop(l, reports)
	var each [][]int
	for i := range all {
		each = append(each, set(i))
	}
	if !sameSets(blame, sets(all)) || !sameSets(drop, each) || e != api.OK || f != api.OK {
		t.Error(blame, drop, e, f)
	}
}
