package mean_test

import (
	"math"
	"math/rand/v2"
	"slices"
	"testing"

	"oche/api"
	"oche/mean"
)

// exact returns what Exact returns for the laws and beds of a leg.
func exact(l api.MeanLeg, visits ...[]api.Bed) (api.MeanTotal, api.MeanLeg, int, api.Errno) {
	return mean.Exact(l.Count, l.Beds, visits)
}

// P6.8: what legs come to that are known dart by dart, and their scores.
func TestExact(t *testing.T) {
	for i, c := range []struct {
		l      api.MeanLeg
		visits [][]api.Bed
		want   api.MeanTotal
	}{
		{example(), lists(list(320, 101, 0), list(320), list(0, 220)), api.MeanTotal{Legs: 1, Won: 1, Visits: 3, Points: 101, Darts: one(6), Tried: one(4), Best: 40}}, {plain(), nil, api.MeanTotal{Legs: 1}}, {plain(), lists(), api.MeanTotal{Legs: 1}},
		// A finish is where a bed of the list would win, hit or not.
		{won(usual(170), 170), lists(list(320, 320, 225)), api.MeanTotal{Legs: 1, Won: 1, Visits: 1, Points: 170, Darts: one(3), Tried: one(1), Tons: 1, Highs: 1, Best: 170}}, {scored(usual(170), 120), lists(list(320, 320, 0)), api.MeanTotal{Legs: 1, Visits: 1, Points: 120, Darts: one(3), Tried: one(1), Tons: 1}}, {scored(leg(count(170, free, double), 125, 320), 120), lists(list(320, 320, 0)), api.MeanTotal{Legs: 1, Visits: 1, Points: 120, Darts: one(3), Tried: one(0), Tons: 1}},
		{won(usual(40), 0, 8, 0, 32), lists(list(120, 120), list(108, 0, 0), list(0, 320), list(116, 208)), api.MeanTotal{Legs: 1, Won: 1, Visits: 4, Points: 40, Darts: one(9), Tried: one(2 + 3 + 2 + 2), Best: 32}},
		{scored(usual(501), 180, 140, 100, 26), lists(list(320, 320, 320), list(320, 320, 120), list(320, 120, 120), list(120, 101, 105)), api.MeanTotal{Legs: 1, Visits: 4, Points: 446, Darts: one(12), Tried: one(0), Tons: 3, Highs: 2, Tops: 1}},
		// Bust darts and misses are darts too; one that is bust with the first dart ends its visit.
		{scored(usual(2), 0, 0, 0), lists(list(101), list(0, 320), list(0, 0, 0)), api.MeanTotal{Legs: 1, Visits: 3, Darts: one(6), Tried: one(6)}},
		// Who is not in tries only where a bed opens both gates, and is not in after a bust visit.
		{won(leg(count(4, double, free), 104, 201, 202), 0, 0, 4), lists(list(104, 104, 0), list(201, 104), list(104, 202)), api.MeanTotal{Legs: 1, Won: 1, Visits: 3, Points: 4, Darts: one(7), Tried: one(3 + 2 + 2), Best: 4}}, {won(leg(count(4, double, free), 104, 201), 0, 0, 4), lists(list(104, 104, 0), list(201, 104), list(104, 201, 201)), api.MeanTotal{Legs: 1, Won: 1, Visits: 3, Points: 4, Darts: one(8), Tried: one(0 + 1 + 1), Best: 4}},
		// With GateAny 1 can be left.
		{won(leg(count(3, free, free), 101, 102), 2, 0, 1), lists(list(101, 0, 101), list(0, 102), list(0, 0, 101)), api.MeanTotal{Legs: 1, Won: 1, Visits: 3, Points: 3, Darts: one(8), Tried: one(2 + 2 + 3), Best: 1}},
		{won(leg(count(240, free, master), 420), 240), lists(list(420, 420, 420)), api.MeanTotal{Legs: 1, Won: 1, Visits: 1, Points: 240, Darts: one(3), Tried: one(1), Tons: 1, Highs: 1, Best: 240}},
	} {
		got, l, at, e := exact(c.l, c.visits...)
		if got != c.want || !sameLegs(l, c.l) || at != 0 || e != api.OK {
			t.Error(i, got, l, at, e)
		}
	}
}

// P6.8: all errors, in their order, and nothing with them.
func TestWrongVisits(t *testing.T) {
	right := list(0, 0, 0)
	for i, c := range []struct {
		visits [][]api.Bed
		at     int
		e      api.Errno
	}{
		// Visits that are not at their end.
		{lists(nil), 0, api.ErrShort}, {lists(list()), 0, api.ErrShort}, {lists(list(0)), 0, api.ErrShort}, {lists(list(320, 101)), 0, api.ErrShort}, {lists(right, right, list(0, 0), right), 2, api.ErrShort}, {lists(list(320, 101, 0), list(101)), 1, api.ErrShort},
		// Beds after the end: three darts, bust, or won.
		{lists(list(0, 0, 0, 0)), 0, api.ErrMore}, {lists(right, list(101, 101, 101, 101, 101)), 1, api.ErrMore}, {lists(list(320, 101, 0), list(320, 0)), 1, api.ErrMore}, {lists(list(320, 101, 0), list(0, 320, 220)), 1, api.ErrMore}, {lists(list(320, 101, 0), list(220, 0)), 1, api.ErrMore}, {lists(list(320, 101, 220, 0)), 0, api.ErrMore}, {lists(list(320, 220, 101)), 0, api.ErrMore},
		// Beds that are none, or not of the list.
		{lists(list(102)), 0, api.ErrNone}, {lists(list(0, 0, 102)), 0, api.ErrNone}, {lists(list(0, 102, 0, 0, 0)), 0, api.ErrNone}, {lists(right, list(325, 0, 0)), 1, api.ErrNone}, {lists(right, list(0, -1)), 1, api.ErrNone}, {lists(list(math.MinInt)), 0, api.ErrNone}, {lists(list(0, math.MaxInt, 0)), 0, api.ErrNone}, {lists(list(1, 101, 101)), 0, api.ErrNone}, {lists(list(102, 999)), 0, api.ErrNone}, {lists(list(125, 225, 103)), 0, api.ErrNone},
		// Bed by bed: after its end a visit has no bed, whichever it is; a bed that is not of the list comes before what is missing or too much later.
		{lists(list(0, 0, 0, 102)), 0, api.ErrMore}, {lists(list(0, 0, 0, 0, 102)), 0, api.ErrMore}, {lists(list(320, 220, 999)), 0, api.ErrMore}, {lists(list(320, 101, 220, 102)), 0, api.ErrMore}, {lists(list(320, 101, 0), list(320, -1)), 1, api.ErrMore}, {lists(list(320, 102, 220, 0)), 0, api.ErrNone},
		// Visits after the one that wins, whatever they are.
		{lists(list(320, 101, 220), right), 1, api.ErrOver}, {lists(list(320, 101, 220), nil), 1, api.ErrOver}, {lists(list(320, 101, 220), list(999)), 1, api.ErrOver}, {lists(list(320, 101, 220), list(0, 0, 0, 0)), 1, api.ErrOver}, {lists(list(320, 101, 0), list(320), list(0, 220), right, right), 3, api.ErrOver},
		// Visit by visit.
		{lists(list(0), list(999), right), 0, api.ErrShort}, {lists(list(999), list(0)), 0, api.ErrNone}, {lists(list(0, 0, 0, 0), list(0)), 0, api.ErrMore}, {lists(right, list(320, 101, 220, 0), list(0)), 1, api.ErrMore},
	} {
		if total, l, at, e := exact(plain(), c.visits...); total != (api.MeanTotal{}) || !sameLegs(l, api.MeanLeg{}) || at != c.at || e != c.e {
			t.Error(i, total, l, at, e)
		}
	}
}

// P6.8: laws and beds that are wrong come first, then too many visits.
func TestWrongLaws(t *testing.T) {
	wrong := 0
	for name, l := range wrongLegs() {
		if plain := scored(l); mean.Check(plain) == api.OK {
			continue // its scores alone are wrong
		}
		wrong++
		for _, visits := range [][][]api.Bed{nil, lists(list(0, 0, 0)), lists(nil), make([][]api.Bed, 101)} {
			if total, l, at, e := exact(l, visits...); total != (api.MeanTotal{}) || !sameLegs(l, api.MeanLeg{}) || at != 0 || e != api.ErrArg {
				t.Error(name, len(visits), total, l, at, e)
			}
		}
	}
	if wrong < 20 {
		t.Error(wrong)
	}
	for _, visits := range [][][]api.Bed{make([][]api.Bed, 101), slices.Repeat(lists(list(0, 0, 0)), 101), append(lists(list(320, 101, 220)), make([][]api.Bed, 100)...), make([][]api.Bed, 5000)} {
		if total, l, at, e := exact(plain(), visits...); total != (api.MeanTotal{}) || !sameLegs(l, api.MeanLeg{}) || at != 0 || e != api.ErrLong {
			t.Error(len(visits), total, l, at, e)
		}
	}
	if total, l, at, e := exact(plain(), slices.Repeat(lists(list(0, 0, 0)), 100)...); total != (api.MeanTotal{Legs: 1, Visits: 100, Darts: one(300)}) || !sameLegs(l, scored(plain(), make([]int, 100)...)) || at != 0 || e != api.OK {
		t.Error(total, l, at, e)
	}
}

// exactByText returns what Exact should return for valid laws and beds, by the text of the chapter.
func exactByText(l api.MeanLeg, visits [][]api.Bed) (api.MeanTotal, api.MeanLeg, int, api.Errno) {
	l = scored(l)
	before := api.HeardStand{Left: l.Count.Start, In: l.Count.In == free}
	var darts, tried int
	for i, beds := range visits {
		if l.Won {
			return api.MeanTotal{}, api.MeanLeg{}, i, api.ErrOver
		}
		now, ended := before, false
		for number, bed := range beds {
			if ended {
				return api.MeanTotal{}, api.MeanLeg{}, i, api.ErrMore
			}
			if bed != 0 && !slices.Contains(l.Beds, bed) {
				return api.MeanTotal{}, api.MeanLeg{}, i, api.ErrNone
			}
			darts++
			if atFinish(l, now) {
				tried++
			}
			after, does := dartByText(l.Count, now, bed)
			now, ended, l.Won = after, does != nothing || number == 2, does == wins
			if does == bust {
				now = before
			}
		}
		if !ended {
			return api.MeanTotal{}, api.MeanLeg{}, i, api.ErrShort
		}
		l.Scores = append(l.Scores, before.Left-now.Left)
		before = now
	}
	var known [][]thrown
	for range visits {
		known = append(known, []thrown{{}})
	}
	t := totalByText(l, known, 100)
	t.Darts, t.Tried = one(darts), one(tried)
	return t, l, 0, api.OK
}

// P6.8: what is returned is what the text says, for visits of which some are wrong.
func TestExactByText(t *testing.T) {
	r := rand.New(rand.NewPCG(4, 6))
	found := map[api.Errno]int{}
	for range 5000 {
		l, truth := randomTruth(r, randomLaws(r, 1+some(r, 5, 12, 25, 60, 400)), 8)
		visits := bedsOf(truth)
		if len(visits) > 0 && r.IntN(2) == 0 {
			i := r.IntN(len(visits))
			switch v := slices.Clip(visits[i]); r.IntN(6) {
			case 0:
				visits[i] = v[:len(v)-1]
			case 1:
				visits[i] = append(v, some(r, 0, some(r, l.Beds...), some(r, allBeds(4)...)))
			case 2:
				visits[i] = slices.Insert(v, r.IntN(len(v)+1), api.Bed(some(r, numbers()...)))
			case 3:
				visits[i] = append(slices.Clone(v[:len(v)-1]), some(r, 0, some(r, l.Beds...), some(r, allBeds(4)...)))
			case 4:
				visits = append(visits, some(r, visits...))
			case 5:
				visits[i] = nil
			}
		}
		total, leg, at, e := exact(l, visits...)
		want, wantLeg, wantAt, f := exactByText(l, visits)
		if total != want || !sameLegs(leg, wantLeg) || at != wantAt || e != f {
			t.Fatal(l, visits, total, leg, at, e, want, wantLeg, wantAt, f)
		}
		found[e]++
	}
	for _, e := range []api.Errno{api.OK, api.ErrShort, api.ErrMore, api.ErrNone, api.ErrOver} {
		if found[e] < 50 {
			t.Error("too few of an error:", e, found[e])
		}
	}
}
