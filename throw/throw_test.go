package throw_test

import (
	"math"
	"math/rand/v2"
	"slices"
	"testing"

	"oche/api"
	"oche/throw"
)

// wrong is a law that is not valid, and its error.
type wrong struct {
	law api.ThrowLaw
	e   api.Errno
}

// ten returns ten beds, in the first of which all darts land.
func ten(den int) []api.ThrowBed {
	l := beds(0, 101, 105, 120, 125, 201, 220, 225, 320, 420)
	l[0].Chance = one(den)
	return l
}

// times returns an aim so many times.
func times(n int, a api.ThrowAim) []api.ThrowAim { return slices.Repeat([]api.ThrowAim{a}, n) }

// wrongLaws returns laws with each error of P7.1, and with several of them.
func wrongLaws() []wrong {
	fine := aim(101, lands(101, 2, 2))
	eleven := aim(101, append(ten(2), lands(421, 0, 0))...)
	l := []wrong{
		{law(2, times(21, fine)...), api.ErrLong}, {law(2, eleven), api.ErrLong}, {law(2, fine, fine, eleven), api.ErrLong},
		// What is too long comes first.
		{law(0, times(21, fine)...), api.ErrLong}, {law(2, times(21, aim(0))...), api.ErrLong}, {law(0, eleven), api.ErrLong}, {law(2, aim(0), eleven), api.ErrLong}, {law(2, api.ThrowAim{Beds: make([]api.ThrowBed, 11)}), api.ErrLong},
		{api.ThrowLaw{}, api.ErrArg}, {law(2), api.ErrArg}, {law(3000), api.ErrArg},
		{law(0, aim(101, lands(101, 0, 0))), api.ErrArg}, {law(3001, aim(101, lands(101, 3001, 3001))), api.ErrArg}, {law(-1, aim(101, lands(101, -1, -1))), api.ErrArg}, {law(math.MaxInt, aim(101, lands(101, math.MaxInt, math.MaxInt))), api.ErrArg}, {law(math.MinInt, aim(101, lands(101, math.MinInt, math.MinInt))), api.ErrArg},
		{law(2, aim(101)), api.ErrArg}, {law(2, fine, aim(101)), api.ErrArg}, {law(2, aim(101), fine), api.ErrArg},
		// Beds that are not strictly ascending.
		{law(2, aim(101, lands(101, 1, 1), lands(101, 1, 1))), api.ErrArg}, {law(2, aim(101, lands(0, 1, 1), lands(0, 1, 1))), api.ErrArg}, {law(2, aim(101, lands(201, 1, 1), lands(120, 1, 1))), api.ErrArg}, {law(2, aim(101, lands(101, 1, 1), lands(0, 1, 1))), api.ErrArg}, {law(2, aim(101, lands(0, 1, 1), lands(120, 1, 1), lands(119, 0, 0))), api.ErrArg},
		// Spans that are not valid.
		{law(2, aim(101, lands(101, 2, 1))), api.ErrArg}, {law(2, aim(101, lands(0, 2, 2), lands(101, 1, 0))), api.ErrArg}, {law(2, aim(101, lands(101, 2, 3))), api.ErrArg}, {law(2, aim(101, lands(101, -1, 2))), api.ErrArg}, {law(2, aim(101, lands(101, 3, 3))), api.ErrArg}, {law(2, aim(101, lands(0, 0, 2), lands(101, -1, -1))), api.ErrArg}, {law(2, aim(101, lands(101, math.MinInt, math.MaxInt))), api.ErrArg}, {law(2, aim(101, lands(101, math.MaxInt, math.MinInt))), api.ErrArg},
		// Sums that leave no truth.
		{law(2, aim(101, lands(0, 1, 1), lands(101, 2, 2))), api.ErrArg}, {law(5, aim(101, lands(0, 2, 5), lands(101, 2, 5), lands(102, 2, 5))), api.ErrArg}, {law(2, aim(101, lands(0, 0, 1))), api.ErrArg}, {law(5, aim(101, lands(0, 0, 1), lands(101, 0, 2), lands(102, 0, 1))), api.ErrArg}, {law(2, fine, aim(101, lands(0, 0, 1))), api.ErrArg}, {law(2, fine, fine, aim(101, lands(0, 1, 1), lands(101, 2, 2)), fine), api.ErrArg},
	}
	return append(l, wrong{law(2, aim(api.Miss, lands(101, 2, 2))), api.ErrArg})
}

// wrongBeds returns laws that aim at, or land in, what is no bed.
func wrongBeds() []wrong {
	var l []wrong
	for bed := api.Bed(-600); bed < 1200; bed++ {
		if !slices.Contains(allBeds(), bed) {
			l = append(l, wrong{law(2, aim(bed, lands(101, 2, 2))), api.ErrArg}, wrong{law(2, aim(101, lands(bed, 2, 2))), api.ErrArg})
		}
	}
	return l
}

// P7.1: laws with and without an error, up to each limit.
func TestCheck(t *testing.T) {
	for i, c := range append(wrongLaws(), wrongBeds()...) {
		if e := throw.Check(c.law); e != c.e {
			t.Error(i, c.law, e)
		}
	}
	fine := []api.ThrowLaw{
		example(), law(1, aim(101, lands(101, 1, 1))), law(1, aim(101, lands(0, 1, 1))), law(3000, times(20, aim(420, ten(3000)...))...), law(3000, aim(420, lands(0, 0, 3000), lands(420, 0, 3000))),
		// Each sum is just Den, and there are just as many.
		law(5, aim(125, lands(0, 2, 2), lands(125, 2, 3), lands(225, 1, 5))), law(5, aim(225, lands(0, 0, 2), lands(125, 0, 2), lands(225, 0, 1))),
		// Two aims can be at the same bed, and none of the beds need be the one that is aimed at.
		law(2, aim(320, lands(101, 2, 2)), aim(320, lands(105, 2, 2)), aim(320, lands(101, 2, 2))),
	}
	for _, bed := range allBeds()[1:] {
		fine = append(fine, law(1, aim(bed, lands(bed, 1, 1))))
	}
	all := allBeds()
	for len(all) > 0 {
		n := min(10, len(all))
		a := aim(101, beds(all[:n]...)...)
		a.Beds[n-1].Chance = to(0, 7)
		fine = append(fine, law(7, a))
		all = all[n:]
	}
	for _, l := range fine {
		if e := throw.Check(l); e != api.OK {
			t.Error(l, e)
		}
	}
}

// P7.1: an aim is valid just if it has a truth, where its spans are valid.
func TestCheckByText(t *testing.T) {
	span := func(n int) api.Span { return to(n/4, n%4) }
	found := 0
	for first := range 16 {
		for second := range 16 {
			for third := range 16 {
				a := aim(320, lands(0, span(first).Low, span(first).High), lands(105, span(second).Low, span(second).High), lands(320, span(third).Low, span(third).High))
				valid := len(truthsByText(a, 3)) > 0
				if e := throw.Check(law(3, a)); (e == api.OK) != valid || !valid && e != api.ErrArg {
					t.Fatal(a, e)
				}
				if valid {
					found++
				}
			}
		}
	}
	if found < 100 {
		t.Error(found)
	}
}

// P7.1: all functions with a law have its errors first, and no result then.
func TestErrorsOfCheck(t *testing.T) {
	for i, c := range wrongLaws() {
		tight, e := throw.Tight(c.law)
		if !same(tight, api.ThrowLaw{}) || e != c.e {
			t.Error(i, tight, e)
		}
		for _, values := range [][]int{nil, {1}, {math.MaxInt}, {1, 2}} {
			for _, number := range ints(-1, 0, 1, 99) {
				mean, e := throw.Mean(c.law, number, values)
				least, f := throw.Truth(c.law, number, values, false)
				most, g := throw.Truth(c.law, number, values, true)
				if mean != (api.Span{}) || len(least) > 0 || len(most) > 0 || e != c.e || f != c.e || g != c.e {
					t.Error(i, mean, least, most, e, f, g)
				}
			}
		}
		scores, e := throw.Score(c.law)
		surely, possibly, f := throw.Best(c.law)
		if len(scores)+len(surely)+len(possibly) > 0 || e != c.e || f != c.e {
			t.Error(i, scores, surely, possibly, e, f)
		}
		// The errors of the first law come first, and both before what does not fit.
		for j, other := range append(wrongLaws(), wrong{example(), c.e}, wrong{law(3000, aim(101, lands(101, 3000, 3000))), c.e}) {
			pool, e := throw.Pool(c.law, other.law)
			if !same(pool, api.ThrowLaw{}) || e != c.e {
				t.Error(i, j, pool, e)
			}
			pool, f := throw.Pool(other.law, c.law)
			if !same(pool, api.ThrowLaw{}) || f != other.e {
				t.Error(i, j, pool, f)
			}
		}
	}
}

// P7.2: the least spans, of all beds.
func TestTight(t *testing.T) {
	for i, c := range []struct {
		den       int
		a, wanted []api.ThrowBed
	}{
		{10, example().Aims[0].Beds, example().Aims[0].Beds},
		{10, example().Aims[1].Beds, []api.ThrowBed{lands(125, 6, 8), lands(225, 2, 4)}},
		{5, []api.ThrowBed{lands(105, 0, 5)}, []api.ThrowBed{lands(105, 5, 5)}},
		{7, []api.ThrowBed{lands(0, 0, 7), lands(101, 2, 3), lands(201, 1, 7)}, []api.ThrowBed{lands(0, 0, 4), lands(101, 2, 3), lands(201, 1, 5)}},
		// The Lows together are all darts, or the Highs are.
		{7, []api.ThrowBed{lands(0, 1, 7), lands(101, 2, 3), lands(201, 4, 7)}, []api.ThrowBed{lands(0, 1, 1), lands(101, 2, 2), lands(201, 4, 4)}},
		{7, []api.ThrowBed{lands(0, 0, 2), lands(101, 1, 1), lands(201, 1, 4)}, []api.ThrowBed{lands(0, 2, 2), lands(101, 1, 1), lands(201, 4, 4)}},
		{3000, []api.ThrowBed{lands(0, 0, 3000), lands(101, 0, 1)}, []api.ThrowBed{lands(0, 2999, 3000), lands(101, 0, 1)}},
	} {
		l := law(c.den, aim(320, c.a...), aim(101, c.a...))
		if got, e := throw.Tight(l); !same(got, law(c.den, aim(320, c.wanted...), aim(101, c.wanted...))) || e != api.OK {
			t.Error(i, got, e)
		}
	}
}

// P7.2: the spans of the chances in all truths; nothing else is changed.
func TestTightByText(t *testing.T) {
	r := rand.New(rand.NewPCG(1, 2))
	narrower := 0
	for range 2000 {
		l := randomLaw(r, 9, 3, 4)
		want := law(l.Den)
		for _, a := range l.Aims {
			least := aim(a.At)
			for i, b := range a.Beds {
				var chances []int
				for _, truth := range truthsByText(a, l.Den) {
					chances = append(chances, truth[i])
				}
				least.Beds = append(least.Beds, lands(b.Bed, slices.Min(chances), slices.Max(chances)))
			}
			want.Aims = append(want.Aims, least)
		}
		if !same(l, want) {
			narrower++
		}
		if got, e := throw.Tight(l); !same(got, want) || e != api.OK {
			t.Fatal(l, got, e)
		}
	}
	if narrower < 100 {
		t.Error(narrower)
	}
}

// P7.3 and P7.4: the errors of an aim, and those of values, in their order.
func TestErrorsOfValues(t *testing.T) {
	most := api.MaxThrowValue
	for i, c := range []struct {
		aim    int
		values []int
		e      api.Errno
	}{
		{0, ints(most, -most, most, -most), api.OK}, {1, ints(-most, most), api.OK}, {1, ints(0, 0), api.OK},
		{2, ints(1, 2), api.ErrNone}, {-1, ints(1, 2, 3, 4), api.ErrNone}, {math.MinInt, ints(1, 2), api.ErrNone}, {math.MaxInt, nil, api.ErrNone}, {2, nil, api.ErrNone}, {2, ints(most + 1), api.ErrNone},
		{0, nil, api.ErrForm}, {0, ints(), api.ErrForm}, {0, ints(1, 2, 3), api.ErrForm}, {0, ints(1, 2, 3, 4, 5), api.ErrForm}, {1, ints(1, 2, 3, 4), api.ErrForm}, {1, ints(most + 1), api.ErrForm}, {1, ints(1, most+1, 3), api.ErrForm},
		{1, ints(most+1, 0), api.ErrArg}, {1, ints(0, most+1), api.ErrArg}, {1, ints(-most-1, 0), api.ErrArg}, {1, ints(0, -most-1), api.ErrArg}, {0, ints(0, 0, 0, math.MaxInt), api.ErrArg}, {0, ints(math.MinInt, 0, 0, 0), api.ErrArg},
	} {
		mean, e := throw.Mean(example(), c.aim, c.values)
		if e != c.e || e != api.OK && mean != (api.Span{}) {
			t.Error(i, mean, e)
		}
		for _, greatest := range []bool{false, true} {
			if truth, e := throw.Truth(example(), c.aim, c.values, greatest); e != c.e || (e == api.OK) != (len(truth) > 0) {
				t.Error(i, truth, e)
			}
		}
	}
}

// P7.3 and P7.4: means, and the truths that have them.
func TestMeanAndTruth(t *testing.T) {
	most := api.MaxThrowValue
	free := law(3000, aim(420, lands(0, 0, 3000), lands(101, 0, 3000), lands(420, 0, 3000)))
	tied := law(10, aim(105, lands(0, 1, 4), lands(101, 0, 3), lands(102, 2, 5), lands(105, 1, 9)))
	for i, c := range []struct {
		law             api.ThrowLaw
		aim             int
		values          []int
		want            api.Span
		least, greatest []int
	}{
		{example(), 0, ints(20, 10, 3, 60), to(236, 343), ints(5, 1, 2, 2), ints(5, 0, 1, 4)},
		{example(), 1, ints(25, 50), to(300, 350), ints(8, 2), ints(6, 4)},
		{free, 0, ints(0, most, -most), to(-3000*most, 3000*most), ints(0, 0, 3000), ints(0, 3000, 0)},
		{free, 0, ints(most, most, most), one(3000 * most), ints(3000, 0, 0), ints(3000, 0, 0)},
		{free, 0, ints(-most, -most, -most), one(-3000 * most), ints(3000, 0, 0), ints(3000, 0, 0)},
		// Of equal values the first bed has as much as it can, then the next one.
		{tied, 0, ints(0, 0, 0, 0), one(0), ints(4, 3, 2, 1), ints(4, 3, 2, 1)},
		{tied, 0, ints(7, 7, 7, 7), one(70), ints(4, 3, 2, 1), ints(4, 3, 2, 1)},
		{tied, 0, ints(1, 0, 0, 1), to(2, 8), ints(1, 3, 5, 1), ints(4, 0, 2, 4)},
		{tied, 0, ints(5, 9, 9, 5), to(58, 82), ints(4, 0, 2, 4), ints(1, 3, 5, 1)},
		{tied, 0, ints(-1, -1, -2, -2), to(-19, -13), ints(1, 0, 5, 4), ints(4, 3, 2, 1)},
	} {
		mean, e := throw.Mean(c.law, c.aim, c.values)
		least, f := throw.Truth(c.law, c.aim, c.values, false)
		greatest, g := throw.Truth(c.law, c.aim, c.values, true)
		if mean != c.want || !slices.Equal(least, c.least) || !slices.Equal(greatest, c.greatest) || e != api.OK || f != api.OK || g != api.OK {
			t.Error(i, mean, least, greatest, e, f, g)
		}
	}
}

// givenByText returns a truth, dart by dart by the text of P7.4.
func givenByText(a api.ThrowAim, den int, values []int, greatest bool) []int {
	var truth []int
	missing := den
	for _, b := range a.Beds {
		truth = append(truth, b.Chance.Low)
		missing -= b.Chance.Low
	}
	for ; missing > 0; missing-- {
		to := -1
		for i, b := range a.Beds {
			room := truth[i] < b.Chance.High
			if room && (to < 0 || !greatest && values[i] < values[to] || greatest && values[i] > values[to]) {
				to = i
			}
		}
		truth[to]++
	}
	return truth
}

// P7.3 and P7.4: the least span of all truths, and truths at its ends, each given dart by dart.
func TestMeanAndTruthByText(t *testing.T) {
	r := rand.New(rand.NewPCG(3, 4))
	for range 3000 {
		l := randomLaw(r, 9, 3, 5)
		number := r.IntN(len(l.Aims))
		a := l.Aims[number]
		values := randomValues(r, a)
		mean, e := throw.Mean(l, number, values)
		least, f := throw.Truth(l, number, values, false)
		greatest, g := throw.Truth(l, number, values, true)
		if mean != meansByText(a, l.Den, values) || e != api.OK || f != api.OK || g != api.OK {
			t.Fatal(l, number, values, mean, e, f, g)
		}
		if !slices.Equal(least, givenByText(a, l.Den, values, false)) || !slices.Equal(greatest, givenByText(a, l.Den, values, true)) {
			t.Fatal(l, number, values, least, greatest)
		}
	}
}

// P7.5: for each aim the mean of the scores of its beds, for all beds.
func TestScore(t *testing.T) {
	if got, e := throw.Score(example()); !slices.Equal(got, spans(to(236, 343), to(300, 350))) || e != api.OK {
		t.Error(got, e)
	}
	for _, bed := range allBeds() {
		if got, e := throw.Score(law(3, aim(101, lands(bed, 3, 3)))); !slices.Equal(got, spans(one(3*scoreByText(bed)))) || e != api.OK {
			t.Error(bed, got, e)
		}
	}
	r := rand.New(rand.NewPCG(5, 6))
	for range 1000 {
		l := randomLaw(r, 8, 5, 4)
		var want []api.Span
		for i, a := range l.Aims {
			want = append(want, meansByText(a, l.Den, scoresByText(a)))
			if mean, e := throw.Mean(l, i, scoresByText(a)); mean != want[i] || e != api.OK {
				t.Fatal(l, i, mean, e)
			}
		}
		if got, e := throw.Score(l); !slices.Equal(got, want) || e != api.OK {
			t.Fatal(l, got, e)
		}
	}
}

// P7.6: aims that are the best ones in some truth, or in all truths.
func TestBest(t *testing.T) {
	sure := func(bed api.Bed) api.ThrowAim { return aim(101, lands(bed, 1, 1)) }
	either := func(low, high api.Bed) api.ThrowAim { return aim(101, lands(low, 0, 1), lands(high, 0, 1)) }
	for i, c := range []struct {
		law              api.ThrowLaw
		surely, possibly []int
	}{
		{example(), nil, ints(0, 1)},
		// One aim alone is always the best one.
		{law(1, sure(0)), ints(0), ints(0)}, {law(1, either(0, 420)), ints(0), ints(0)},
		{law(1, sure(101), sure(102)), ints(1), ints(1)}, {law(1, sure(102), sure(101)), ints(0), ints(0)}, {law(1, sure(102), sure(102), sure(101)), ints(0, 1), ints(0, 1)},
		// As good as the best one is enough.
		{law(1, sure(105), either(101, 105)), ints(0), ints(0, 1)}, {law(1, either(101, 105), sure(105)), ints(1), ints(0, 1)}, {law(1, sure(101), either(101, 105)), ints(1), ints(0, 1)}, {law(1, either(101, 105), either(101, 105)), nil, ints(0, 1)}, {law(1, either(101, 105), either(105, 109)), ints(1), ints(0, 1)}, {law(1, either(101, 105), either(104, 109)), nil, ints(0, 1)}, {law(1, either(101, 104), either(105, 109), sure(107)), nil, ints(1, 2)},
	} {
		surely, possibly, e := throw.Best(c.law)
		if !slices.Equal(surely, c.surely) || !slices.Equal(possibly, c.possibly) || e != api.OK {
			t.Error(i, surely, possibly, e)
		}
	}
}

// scoresOfTruths returns the mean scores of all aims, for each truth of a law.
func scoresOfTruths(l api.ThrowLaw) [][]int {
	all := [][]int{nil}
	for _, a := range l.Aims {
		var more [][]int
		for _, truth := range truthsByText(a, l.Den) {
			for _, means := range all {
				more = append(more, append(slices.Clip(means), meanByText(truth, scoresByText(a))))
			}
		}
		all = more
	}
	return all
}

// P7.6: of all truths of a law.
func TestBestByText(t *testing.T) {
	r := rand.New(rand.NewPCG(7, 8))
	found := 0
	for range 1500 {
		l := randomLaw(r, 4, 4, 3)
		var surely, possibly []int
		for i := range l.Aims {
			best, all := 0, scoresOfTruths(l)
			for _, means := range all {
				if means[i] == slices.Max(means) {
					best++
				}
			}
			if best == len(all) {
				surely = append(surely, i)
			}
			if best > 0 {
				possibly = append(possibly, i)
			}
		}
		found += len(surely)
		if a, b, e := throw.Best(l); !slices.Equal(a, surely) || !slices.Equal(b, possibly) || e != api.OK {
			t.Fatal(l, a, b, e)
		}
	}
	if found < 100 {
		t.Error(found)
	}
}

// P7.8: two laws together.
func TestPool(t *testing.T) {
	other := law(5, aim(320, lands(120, 0, 5), lands(205, 1, 1), lands(301, 0, 0), lands(320, 1, 4)), aim(225, lands(125, 5, 5), lands(225, 0, 0)))
	want := law(15, aim(320, lands(120, 4, 11), lands(205, 1, 2), lands(301, 1, 2), lands(320, 3, 8)), aim(225, lands(125, 11, 13), lands(225, 0, 9)))
	if got, e := throw.Pool(example(), other); !same(got, want) || e != api.OK {
		t.Error(got, e)
	}
	all := func(den int) api.ThrowLaw { return law(den, aim(101, lands(0, 0, den), lands(101, 0, den))) }
	other = all(3)
	other.Aims = append(other.Aims, other.Aims[0])
	for i, c := range []struct {
		a, b api.ThrowLaw
		e    api.Errno
	}{
		{all(1), all(2999), api.OK}, {all(1500), all(1500), api.OK}, {all(1), all(3000), api.ErrFull}, {all(3000), all(3000), api.ErrFull}, {all(1501), all(1500), api.ErrFull},
		{all(3), other, api.ErrForm}, {all(3000), other, api.ErrForm},
		{all(3), law(3, aim(201, all(3).Aims[0].Beds...)), api.ErrForm}, {all(3), law(3, aim(101, lands(101, 3, 3))), api.ErrForm}, {all(3), law(3, aim(101, lands(0, 3, 3))), api.ErrForm}, {all(3), law(3, aim(101, lands(0, 0, 3), lands(102, 0, 3))), api.ErrForm}, {all(3), law(3, aim(101, lands(0, 0, 3), lands(101, 0, 3), lands(102, 0, 3))), api.ErrForm}, {example(), law(10, example().Aims[1], example().Aims[0]), api.ErrForm}, {example(), law(10, example().Aims[0], all(10).Aims[0]), api.ErrForm}, {law(3000, aim(420, lands(0, 3000, 3000))), all(3), api.ErrForm},
	} {
		got, e := throw.Pool(c.a, c.b)
		again, f := throw.Pool(c.b, c.a)
		if e != c.e || f != c.e || !same(got, again) || e != api.OK && !same(got, api.ThrowLaw{}) || e == api.OK && got.Den != c.a.Den+c.b.Den {
			t.Error(i, got, e, f)
		}
	}
}
