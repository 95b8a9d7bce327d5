package mean_test

import (
	"math/rand/v2"
	"slices"
	"testing"

	"oche/api"
	"oche/mean"
)

// The chapter's examples.
func TestExamples(t *testing.T) {
	visits, at, e := mean.Visits(example())
	if !slices.Equal(visits, spans(visit(one(3), to(0, 1)), visit(to(1, 3), to(1, 3)), visit(to(1, 3), to(1, 3)))) || at != 0 || e != api.OK {
		t.Error(visits, at, e)
	}
	total, at, e := mean.Totals(legs(example()))
	if total != (api.MeanTotal{Legs: 1, Won: 1, Visits: 3, Points: 101, Darts: to(5, 9), Tried: to(2, 7), Best: 40}) || at != 0 || e != api.OK {
		t.Error(total, at, e)
	}
	if average, e := mean.Average(total); average != bounds(101, 3, 303, 5) || e != api.OK {
		t.Error(average, e)
	}
	if rate, e := mean.Rate(total); rate != bounds(1, 7, 1, 2) || e != api.OK {
		t.Error(rate, e)
	}
	for end, want := range map[api.MeanEnd][][]api.Bed{fewDarts: lists(list(0, 101, 320), list(320), list(220)), manyDarts: lists(list(0, 101, 320), list(0, 0, 0), list(0, 0, 220)), manyTried: lists(list(101, 320, 0), list(0, 0, 0), list(0, 0, 220))} {
		if shown, at, e := mean.Show(example(), end); !sameLists(shown, want) || at != 0 || e != api.OK {
			t.Error(end, shown, at, e)
		}
	}
	for _, l := range legs(scored(plain(), 61, 41), scored(plain(), 61, 40)) {
		if visits, at, e := mean.Visits(l); visits != nil || at != 1 || e != api.ErrNone {
			t.Error(l, visits, at, e)
		}
	}
	total, l, at, e := exact(plain(), list(320, 101, 0), list(320), list(0, 220))
	if total.Darts != one(6) || total.Tried != one(4) || !sameLegs(l, example()) || at != 0 || e != api.OK {
		t.Error(total, l, at, e)
	}
	// DOC.md, across the chapters: the average of the one visit is from 40 to 120.
	total, _, _ = mean.Totals(legs(won(leg(count(40, free, double), 110, 120, 205, 210, 220), 40)))
	if average, e := mean.Average(total); average != bounds(40, 1, 120, 1) || e != api.OK {
		t.Error(average, e)
	}
}

// holds reports whether a span has a number.
func holds(s api.Span, n int) bool { return s.Low <= n && n <= s.High }

// around reports whether a range has all numbers of another one.
func around(a, b api.MeanRange) bool {
	below := func(x, y api.MeanFraction) bool { return x.Num*y.Den <= y.Num*x.Den }
	return below(a.Low, b.Low) && below(b.High, a.High)
}

// usualTruth returns a leg as it is on boards, or a small one, and what truly was thrown in it.
func usualTruth(r *rand.Rand) (api.MeanLeg, []thrown) {
	l := randomLaws(r, some(r, 30, 101))
	if r.IntN(3) == 0 {
		l.Count = count(some(r, 101, 301, 501), free, double)
		l.Beds = some(r, allBeds(3)[r.IntN(40):], list(101, 105, 119, 120, 125, 205, 210, 220, 225, 319, 320))
	}
	return randomTruth(r, l, 25)
}

// P6.10: what truly was thrown lies in the spans of Totals, and its average and rate in their ranges.
func TestInEveryTruth(t *testing.T) {
	r := rand.New(rand.NewPCG(5, 6))
	wide, rates := 0, 0
	for range 500 {
		l, truth := usualTruth(r)
		exactly, again, at, e := exact(l, bedsOf(truth)...)
		total, i, f := mean.Totals(legs(again))
		if !sameLegs(again, l) || at != 0 || i != 0 || e != api.OK || f != api.OK {
			t.Fatal(l, truth, again, at, i, e, f)
		}
		if !holds(total.Darts, exactly.Darts.Low) || !holds(total.Tried, exactly.Tried.Low) || exactly.Darts != one(exactly.Darts.Low) || exactly.Tried != one(exactly.Tried.Low) {
			t.Fatal(l, truth, total, exactly)
		}
		average, e := mean.Average(total)
		truly, f := mean.Average(exactly)
		if e != f || (e == api.OK) != (len(truth) > 0) || e == api.OK && !around(average, truly) {
			t.Fatal(l, truth, average, truly, e, f)
		}
		if rate, e := mean.Rate(total); e == api.OK {
			// Perhaps nothing truly was tried.
			if truly, f := mean.Rate(exactly); f == api.OK && !around(rate, truly) || f != api.OK && f != api.ErrNone {
				t.Fatal(l, truth, rate, truly, f)
			}
			rates++
		}
		if total.Darts.Low < exactly.Darts.Low && exactly.Tried.High < total.Tried.High {
			wide++
		}
		exactly.Darts, exactly.Tried = total.Darts, total.Tried
		if exactly != total {
			t.Fatal(l, truth, total, exactly)
		}
	}
	if wide < 50 || rates < 100 {
		t.Error("too few totals are open, or have rates:", wide, rates)
	}
}

// P6.11: what is shown has the scores of the leg, and reaches the end of the span.
func TestEndsAreReached(t *testing.T) {
	r := rand.New(rand.NewPCG(6, 6))
	for range 300 {
		l, _ := usualTruth(r)
		total, _, e := mean.Totals(legs(l))
		if e != api.OK {
			t.Fatal(l, e)
		}
		for _, end := range ends() {
			shown, at, e := mean.Show(l, end)
			reached, again, i, f := exact(l, shown...)
			if !sameLegs(again, l) || at != 0 || i != 0 || e != api.OK || f != api.OK {
				t.Fatal(l, end, shown, again, at, i, e, f)
			}
			if want := map[api.MeanEnd]int{fewDarts: total.Darts.Low, manyDarts: total.Darts.High, fewTried: total.Tried.Low, manyTried: total.Tried.High}[end]; want != map[bool]int{true: reached.Darts.Low, false: reached.Tried.Low}[end == fewDarts || end == manyDarts] {
				t.Fatal(l, end, shown, want, reached)
			}
		}
	}
}

// P6.12: legs in two lists, or in another order, come to the same.
func TestManyLegs(t *testing.T) {
	r := rand.New(rand.NewPCG(7, 6))
	for range 200 {
		var l []api.MeanLeg
		for range r.IntN(8) {
			one, _ := usualTruth(r)
			l = append(l, one)
		}
		cut := r.IntN(len(l) + 1)
		all, first, _, e := sums(t, l)
		before, firstBefore, _, f := sums(t, l[:cut])
		after, firstAfter, _, g := sums(t, l[cut:])
		if all != plus(before, after) || first != plus(firstBefore, firstAfter) || e != api.OK || f != api.OK || g != api.OK {
			t.Fatal(l, cut, all, before, after, first, firstBefore, firstAfter, e, f, g)
		}
		r.Shuffle(len(l), func(i, j int) { l[i], l[j] = l[j], l[i] })
		if again, firstAgain, _, e := sums(t, l); again != all || firstAgain != first || e != api.OK {
			t.Fatal(l, all, again, first, firstAgain, e)
		}
	}
}

// P6.13: what surely is better is not possibly worse, and nothing is surely better than itself.
func TestBetterAndWorse(t *testing.T) {
	r := rand.New(rand.NewPCG(8, 6))
	random := func() api.MeanRange {
		for {
			a := bounds(r.IntN(60), 1+r.IntN(9), r.IntN(60), 1+r.IntN(9))
			if a.Low.Num*a.High.Den <= a.High.Num*a.Low.Den {
				return a
			}
		}
	}
	better := 0
	for range 20000 {
		a, b := random(), random()
		surely, possibly, e := mean.Better(a, b)
		_, other, f := mean.Better(b, a)
		if surely && other || surely && !possibly || e != api.OK || f != api.OK {
			t.Fatal(a, b, surely, possibly, other, e, f)
		}
		if surely, _, e := mean.Better(a, a); surely || e != api.OK {
			t.Fatal(a, surely, e)
		}
		if surely {
			better++
		}
	}
	if better < 1000 {
		t.Error("too few ranges are surely better:", better)
	}
}

// R4: arguments are not changed, and no result shares memory with them or within itself.
func TestMemory(t *testing.T) {
	r := rand.New(rand.NewPCG(9, 6))
	for range 300 {
		l, truth := usualTruth(r)
		beds, scores, visits := slices.Clone(l.Beds), slices.Clone(l.Scores), bedsOf(truth)
		thrown := bedsOf(truth)
		for i, v := range thrown {
			thrown[i] = slices.Clone(v)
		}
		same := func() bool {
			return slices.Equal(l.Beds, beds) && slices.Equal(l.Scores, scores) && sameLists(visits, thrown)
		}
		_, again, _, _ := exact(l, visits...)
		for i := range again.Beds {
			again.Beds[i] = 999
		}
		for i := range again.Scores {
			again.Scores[i] = -1
		}
		sums(t, legs(l, l))
		for _, end := range ends() {
			shown, _, _ := mean.Show(l, end)
			before, _, _ := mean.Show(l, end)
			for i := range shown {
				for j := range shown[i] {
					shown[i][j] = 999
				}
				_ = append(shown[i], 999, 999, 999)
				if i+1 < len(shown) && !sameLists(shown[i+1:], before[i+1:]) {
					t.Fatal(l, end, shown)
				}
			}
			if later, _, _ := mean.Show(l, end); !sameLists(later, before) {
				t.Fatal(l, end, later, before)
			}
		}
		if !same() {
			t.Fatal(l, beds, scores, visits, thrown)
		}
	}
}

// R3: a nil list and an empty one are the same.
func TestNilAndEmpty(t *testing.T) {
	for i, l := range legs(scored(plain()), scored(plain(), scores()...)) {
		visits, _, e := mean.Visits(l)
		shown, _, f := mean.Show(l, fewDarts)
		if len(visits) != 0 || len(shown) != 0 || e != api.OK || f != api.OK {
			t.Error(i, visits, shown, e, f)
		}
	}
	for i, visits := range [][][]api.Bed{nil, {}} {
		if total, l, at, e := exact(plain(), visits...); total != (api.MeanTotal{Legs: 1}) || !sameLegs(l, plain()) || at != 0 || e != api.OK {
			t.Error(i, total, l, at, e)
		}
	}
}

// anyLeg returns a leg of which anything can be wrong.
func anyLeg(r *rand.Rand) api.MeanLeg {
	number := func() int { return some(r, numbers()...) }
	l := randomLeg(r)
	switch r.IntN(12) {
	case 0:
		l.Count.Start = number()
	case 1:
		l.Count.In, l.Count.Out = api.Gate(number()), api.Gate(number()%4)
	case 2:
		l.Beds = append(slices.Clip(l.Beds), api.Bed(number()))
	case 3:
		l.Beds = make([]api.Bed, r.IntN(90))
	case 4:
		l.Scores = append(slices.Clip(l.Scores), number())
	case 5:
		l.Won = !l.Won
	case 6:
		l.Scores = make([]int, r.IntN(110))
	}
	return l
}

// P1: each function returns, whatever it is given, and with an error nothing else.
func TestAnyArguments(t *testing.T) {
	r := rand.New(rand.NewPCG(10, 6))
	number := func() int { return some(r, numbers()...) }
	valid := 0
	for range 10000 {
		l := anyLeg(r)
		visits, at, e := mean.Visits(l)
		if e != api.OK && visits != nil || e == api.OK && len(visits) != len(l.Scores) || e != api.ErrNone && at != 0 {
			t.Fatal(l, visits, at, e)
		}
		shown, at, f := mean.Show(l, api.MeanEnd(number()))
		if f != api.OK && shown != nil || f == api.OK && len(shown) != len(l.Scores) || f != api.ErrNone && at != 0 || f != e && f != api.ErrRange {
			t.Fatal(l, shown, at, e, f)
		}
		all, first, at, f := sums(t, legs(l, anyLeg(r)))
		if f != api.OK && (all != (api.MeanTotal{}) || first != all) || at == 0 && f != e || at == 1 && e != api.OK {
			t.Fatal(l, all, first, at, e, f)
		}
		if f == api.OK {
			valid++
		}
		total := api.MeanTotal{Won: number(), Points: number(), Darts: to(number(), number()), Tried: to(number(), number())}
		average, e := mean.Average(total)
		rate, f := mean.Rate(total)
		if e != api.OK && average != (api.MeanRange{}) || f != api.OK && rate != (api.MeanRange{}) {
			t.Fatal(total, average, rate, e, f)
		}
		surely, possibly, e := mean.Better(bounds(number(), number(), number(), number()), some(r, average, rate, bounds(0, 1, number(), 1)))
		if e != api.OK && (surely || possibly) {
			t.Fatal(surely, possibly, e)
		}
		var thrown [][]api.Bed
		for range r.IntN(some(r, 3, 8, 110)) {
			thrown = append(thrown, some(r, list(0, 0, 0), list(some(r, append(list(0), l.Beds...)...), 0, 0), list(api.Bed(number())), nil))
		}
		exactly, again, at, e := exact(l, thrown...)
		if e != api.OK && (exactly != (api.MeanTotal{}) || !sameLegs(again, api.MeanLeg{})) || e == api.OK && len(again.Scores) != len(thrown) || !holds(to(0, len(thrown)), at) {
			t.Fatal(l, thrown, exactly, again, at, e)
		}
	}
	if valid < 1000 {
		t.Error("too few arguments are valid:", valid)
	}
}
