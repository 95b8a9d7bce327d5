package throw_test

import (
	"math/rand/v2"
	"slices"
	"testing"

	"oche/api"
	"oche/throw"
)

// The chapter's examples.
func TestExamples(t *testing.T) {
	tight, e := throw.Tight(example())
	if !same(tight, law(10, example().Aims[0], aim(225, lands(125, 6, 8), lands(225, 2, 4)))) || e != api.OK {
		t.Error(tight, e)
	}
	if scores, e := throw.Score(example()); !slices.Equal(scores, spans(to(236, 343), to(300, 350))) || e != api.OK {
		t.Error(scores, e)
	}
	for greatest, want := range map[bool][]int{false: ints(5, 1, 2, 2), true: ints(5, 0, 1, 4)} {
		if truth, e := throw.Truth(example(), 0, ints(20, 10, 3, 60), greatest); !slices.Equal(truth, want) || e != api.OK {
			t.Error(greatest, truth, e)
		}
	}
	if surely, possibly, e := throw.Best(example()); len(surely) > 0 || !slices.Equal(possibly, ints(0, 1)) || e != api.OK {
		t.Error(surely, possibly, e)
	}
	fitted, den, at, e := throw.Fit(aim(320, beds(0, 101, 105, 120, 320)...), visits(known(320, 120, 101), total(100), total(60)))
	if !same(fitted, aim(320, lands(0, 0, 2), lands(101, 1, 1), lands(105, 0, 0), lands(120, 3, 6), lands(320, 2, 3))) || den != 9 || at != 0 || e != api.OK {
		t.Error(fitted, den, at, e)
	}
}

// holds reports whether a span has a number, and isTruth whether numbers are a truth of an aim.
func holds(s api.Span, n int) bool { return s.Low <= n && n <= s.High }

func isTruth(a api.ThrowAim, den int, truth []int) bool {
	sum := 0
	for i, n := range truth {
		sum += n
		if !holds(a.Beds[i].Chance, n) {
			return false
		}
	}
	return sum == den && len(truth) == len(a.Beds)
}

// P7.9: in each truth the mean lies in the span of Mean; what Truth returns reaches both ends.
func TestInEveryTruth(t *testing.T) {
	r := rand.New(rand.NewPCG(11, 12))
	for range 1000 {
		l := randomLaw(r, 8, 3, 4)
		tight, e := throw.Tight(l)
		if e != api.OK || throw.Check(tight) != api.OK {
			t.Fatal(l, tight, e)
		}
		for i, a := range l.Aims {
			values := randomValues(r, a)
			mean, _ := throw.Mean(l, i, values)
			again, _ := throw.Mean(tight, i, values)
			least, _ := throw.Truth(l, i, values, false)
			greatest, _ := throw.Truth(l, i, values, true)
			if !isTruth(a, l.Den, least) || !isTruth(a, l.Den, greatest) || mean != to(meanByText(least, values), meanByText(greatest, values)) || again != mean {
				t.Fatal(l, i, values, mean, again, least, greatest)
			}
			truths := truthsByText(a, l.Den)
			if !same(truths, truthsByText(tight.Aims[i], l.Den)) {
				t.Fatal(l, tight, i)
			}
			for _, truth := range truths {
				if !holds(mean, meanByText(truth, values)) {
					t.Fatal(l, i, values, mean, truth)
				}
			}
		}
	}
}

// P7.10: in each truth an aim with the greatest mean score possibly is the best one; none is ahead of one that surely is.
func TestBestInEveryTruth(t *testing.T) {
	r := rand.New(rand.NewPCG(13, 14))
	for range 1000 {
		l := randomLaw(r, 4, 4, 3)
		surely, possibly, e := throw.Best(l)
		if len(possibly) == 0 || !slices.IsSorted(surely) || !slices.IsSorted(possibly) || e != api.OK {
			t.Fatal(l, surely, possibly, e)
		}
		for _, means := range scoresOfTruths(l) {
			for i, mean := range means {
				if best := mean == slices.Max(means); best && !slices.Contains(possibly, i) || !best && slices.Contains(surely, i) {
					t.Fatal(l, surely, possibly, means)
				}
			}
		}
	}
}

// P7.11: what truly was thrown lies in the spans of Fit, which no visit makes wider that is known dart by dart.
func TestDartsAreASet(t *testing.T) {
	r := rand.New(rand.NewPCG(15, 16))
	for range 1000 {
		a := randomAim(r, 9, 10)
		truth, said := randomVisits(r, a, some(r, 2, 10, 100))
		exact, _, _, e := throw.Fit(a, truth)
		fitted, den, _, f := throw.Fit(a, said)
		if e != api.OK || f != api.OK || throw.Check(law(den, fitted)) != api.OK || throw.Check(law(den, exact)) != api.OK {
			t.Fatal(a, said, exact, fitted, den, e, f)
		}
		for i, b := range a.Beds {
			number := 0
			for _, v := range truth {
				for _, dart := range v.Darts {
					if dart == b.Bed {
						number++
					}
				}
			}
			if exact.Beds[i].Chance != one(number) || !holds(fitted.Beds[i].Chance, number) {
				t.Fatal(a, truth, said, exact, fitted)
			}
		}
		i := r.IntN(len(said))
		said[i] = truth[i]
		slices.Reverse(said[i].Darts)
		narrower, _, _, e := throw.Fit(a, said)
		for j, b := range narrower.Beds {
			if s := fitted.Beds[j].Chance; !holds(s, b.Chance.Low) || !holds(s, b.Chance.High) || e != api.OK {
				t.Fatal(a, said, fitted, narrower, e)
			}
		}
	}
}

// P7.12: the sum of two truths is a truth of the pooled law, and the order of two laws does not matter.
func TestPooled(t *testing.T) {
	r := rand.New(rand.NewPCG(17, 18))
	for range 500 {
		a := randomLaw(r, 6, 3, 4)
		b := law(1 + r.IntN(6))
		for _, x := range a.Aims {
			y := aim(x.At)
			for _, bed := range x.Beds {
				low := r.IntN(2)
				y.Beds = append(y.Beds, lands(bed.Bed, low, r.IntN(b.Den-low+1)+low))
			}
			b.Aims = append(b.Aims, y)
		}
		if throw.Check(b) != api.OK {
			continue
		}
		pool, e := throw.Pool(a, b)
		again, f := throw.Pool(b, a)
		if !same(pool, again) || e != api.OK || f != api.OK || pool.Den != a.Den+b.Den || throw.Check(pool) != api.OK {
			t.Fatal(a, b, pool, again, e, f)
		}
		for i, x := range a.Aims {
			if pool.Aims[i].At != x.At {
				t.Fatal(a, b, pool)
			}
			for j, bed := range x.Beds {
				more := b.Aims[i].Beds[j].Chance
				if pool.Aims[i].Beds[j] != lands(bed.Bed, bed.Chance.Low+more.Low, bed.Chance.High+more.High) {
					t.Fatal(a, b, pool)
				}
			}
			for _, truth := range truthsByText(x, a.Den) {
				for _, other := range truthsByText(b.Aims[i], b.Den) {
					sum := slices.Clone(truth)
					for j := range sum {
						sum[j] += other[j]
					}
					if !isTruth(pool.Aims[i], pool.Den, sum) {
						t.Fatal(a, b, pool, sum)
					}
				}
			}
		}
	}
}

// P7.8: if a law has two pooled ones as parts of its darts, so has what Fit finds.
func TestPooledFits(t *testing.T) {
	r := rand.New(rand.NewPCG(19, 20))
	for range 200 {
		a := randomAim(r, 9, 6)
		_, first := randomVisits(r, a, 20)
		_, second := randomVisits(r, a, 20)
		x, den, _, e := throw.Fit(a, first)
		y, more, _, f := throw.Fit(a, second)
		pool, g := throw.Pool(law(den, x), law(more, y))
		all, sum, _, h := throw.Fit(a, append(first, second...))
		if !same(pool, law(sum, all)) || e != api.OK || f != api.OK || g != api.OK || h != api.OK {
			t.Fatal(a, first, second, pool, all, e, f, g, h)
		}
	}
}

// R3: nil and empty lists are the same.
func TestNilAndEmpty(t *testing.T) {
	empty, none := api.ThrowLaw{Den: 1, Aims: []api.ThrowAim{}}, api.ThrowLaw{Den: 1}
	bare := law(1, api.ThrowAim{At: 101, Beds: []api.ThrowBed{}})
	if throw.Check(empty) != throw.Check(none) || throw.Check(bare) != throw.Check(law(1, api.ThrowAim{At: 101})) {
		t.Error("Check")
	}
	a, b := known(), total(0)
	a.Darts, b.Darts = []api.Bed{}, nil
	x, den, at, e := throw.Fit(five(), visits(a))
	y, d, i, f := throw.Fit(five(), visits(b))
	if !same(x, y) || den != d || at != i || e != f || e != api.OK {
		t.Error(x, y, den, d, at, i, e, f)
	}
}

// R4: no argument is changed, and nothing that is done with a result changes an argument or another result.
func TestMemory(t *testing.T) {
	l, values, said := example(), ints(20, 10, 3, 60), visits(known(320, 120, 101), total(100), total(60))
	a := five()
	spoil := func(beds []api.ThrowBed) {
		for i := range beds {
			beds[i] = lands(7, -7, -7)
		}
	}
	for range 2 {
		tight, _ := throw.Tight(l)
		pool, _ := throw.Pool(l, l)
		fitted, _, _, e := throw.Fit(a, said)
		truth, f := throw.Truth(l, 0, values, true)
		surely, possibly, _ := throw.Best(law(1, aim(101, lands(101, 1, 1))))
		if e != api.OK || f != api.OK {
			t.Fatal(e, f)
		}
		spoil(tight.Aims[0].Beds)
		if !same(tight.Aims[1].Beds, []api.ThrowBed{lands(125, 6, 8), lands(225, 2, 4)}) {
			t.Error(tight)
		}
		spoil(pool.Aims[0].Beds)
		spoil(fitted.Beds)
		truth[0], surely[0] = 99, 99
		if possibly[0] != 0 {
			t.Error(possibly)
		}
	}
	if !same(l, example()) || !same(values, ints(20, 10, 3, 60)) || !same(said, visits(known(320, 120, 101), total(100), total(60))) || !same(a, five()) {
		t.Error(l, values, said, a)
	}
}

// anyLaw returns a law of any numbers, most of which are wrong, or one that is nearly valid.
func anyLaw(r *rand.Rand) api.ThrowLaw {
	l := randomLaw(r, 9, 4, 5)
	for range r.IntN(3) {
		a := &l.Aims[r.IntN(len(l.Aims))]
		n := some(r, numbers()...)
		switch r.IntN(6) {
		case 0:
			l.Den = n
		case 1:
			a.At = api.Bed(n)
		case 2:
			a.Beds[r.IntN(len(a.Beds))].Bed = api.Bed(n)
		case 3:
			a.Beds[r.IntN(len(a.Beds))].Chance = to(n, some(r, numbers()...))
		case 4:
			a.Beds[r.IntN(len(a.Beds))].Chance.High = n
		case 5:
			a.Beds = append(a.Beds, slices.Repeat(a.Beds[:1], r.IntN(11))...)
		}
	}
	return l
}

// P1: no function panics, and each error comes with zero values.
func TestAnyArguments(t *testing.T) {
	r := rand.New(rand.NewPCG(21, 22))
	for range 20000 {
		l, other := anyLaw(r), anyLaw(r)
		before := clone(l)
		number, values := some(r, append(numbers(), 0, 0, 0, 1)...), ints(some(r, numbers()...), some(r, numbers()...), 3)[:r.IntN(4)]
		e := throw.Check(l)
		tight, f := throw.Tight(l)
		pool, g := throw.Pool(l, some(r, l, other))
		if f != e || e != api.OK && (g != e || !same(tight, api.ThrowLaw{})) || g != api.OK && !same(pool, api.ThrowLaw{}) {
			t.Fatal(l, tight, pool, e, f, g)
		}
		mean, f := throw.Mean(l, number, values)
		truth, g := throw.Truth(l, number, values, r.IntN(2) == 0)
		if f != g || e != api.OK && f != e || f != api.OK && (mean != (api.Span{}) || len(truth) > 0) {
			t.Fatal(l, number, values, mean, truth, e, f, g)
		}
		said := visits(total(some(r, numbers()...)), known(list(api.Bed(some(r, numbers()...)), 0, 0, 0)[:some(r, 0, 0, 1, 3, 4)]...))
		fitted, den, at, f := throw.Fit(l.Aims[0], said[r.IntN(2):])
		if f != api.OK && (!same(fitted, api.ThrowAim{}) || den != 0) || f == api.OK && at != 0 {
			t.Fatal(l, said, fitted, den, at, f)
		}
		if !same(l, before) {
			t.Fatal(l, before)
		}
	}
}

// The largest arguments of all functions.
func TestLargest(t *testing.T) {
	a := aim(420, beds(110, 120, 205, 210, 301, 310, 320, 401, 405, 410)...)
	said := slices.Repeat(visits(total(60)), 1000)
	fitted, den, _, e := throw.Fit(a, said)
	if den != 3000 || e != api.OK {
		t.Fatal(den, e)
	}
	l := law(den, times(20, fitted)...)
	surely, possibly, e := throw.Best(l)
	if len(surely) != 0 || len(possibly) != 20 || e != api.OK {
		t.Error(surely, possibly, e)
	}
	values := slices.Repeat(ints(api.MaxThrowValue, -api.MaxThrowValue), 5)
	if mean, e := throw.Mean(l, 19, values); mean != meanOfEnds(fitted, den, values) || e != api.OK {
		t.Error(mean, e)
	}
	if pool, e := throw.Pool(l, law(1, l.Aims...)); !same(pool, api.ThrowLaw{}) || e != api.ErrArg {
		t.Error(pool, e)
	}
}

// meanOfEnds returns the means of the truths that are given dart by dart.
func meanOfEnds(a api.ThrowAim, den int, values []int) api.Span {
	return to(meanByText(givenByText(a, den, values, false), values), meanByText(givenByText(a, den, values, true), values))
}
