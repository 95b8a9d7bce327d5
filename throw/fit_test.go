package throw_test

import (
	"math"
	"math/rand/v2"
	"slices"
	"testing"

	"oche/api"
	"oche/throw"
)

// five returns the beds of the chapter's example, with chances that do not matter.
func five() api.ThrowAim {
	return aim(320, lands(0, 9, 9), lands(101, 0, -5), lands(105, math.MinInt, math.MaxInt), lands(120, 3001, 7), lands(320, 1, 1))
}

// P7.7: the least spans of how many darts landed in each bed.
func TestFit(t *testing.T) {
	for i, c := range []struct {
		a      api.ThrowAim
		visits []api.ThrowVisit
		want   []api.ThrowBed
	}{
		{five(), visits(known(320, 120, 101), total(100), total(60)), []api.ThrowBed{lands(0, 0, 2), lands(101, 1, 1), lands(105, 0, 0), lands(120, 3, 6), lands(320, 2, 3)}},
		{five(), visits(total(0)), []api.ThrowBed{lands(0, 3, 3), lands(101, 0, 0), lands(105, 0, 0), lands(120, 0, 0), lands(320, 0, 0)}},
		{five(), visits(total(180), known(320, 320, 320)), []api.ThrowBed{lands(0, 0, 0), lands(101, 0, 0), lands(105, 0, 0), lands(120, 0, 0), lands(320, 6, 6)}},
		{five(), visits(known(0, 101, 0), known(0, 0, 101), known(101, 0, 0)), []api.ThrowBed{lands(0, 6, 6), lands(101, 3, 3), lands(105, 0, 0), lands(120, 0, 0), lands(320, 0, 0)}},
		{five(), slices.Repeat(visits(total(60)), 1000), []api.ThrowBed{lands(0, 0, 2000), lands(101, 0, 0), lands(105, 0, 0), lands(120, 0, 3000), lands(320, 0, 1000)}},
		{aim(420, beds(420)...), visits(total(240)), []api.ThrowBed{lands(420, 3, 3)}},
		{aim(101, beds(0)...), visits(total(0), known(0, 0, 0)), []api.ThrowBed{lands(0, 6, 6)}},
		{aim(225, beds(125, 225)...), visits(total(75), total(100), total(125), total(150)), []api.ThrowBed{lands(125, 6, 6), lands(225, 6, 6)}},
		// Beds with the same score can take each other's darts.
		{aim(104, beds(104, 202, 401)...), visits(total(12)), []api.ThrowBed{lands(104, 0, 3), lands(202, 0, 3), lands(401, 0, 3)}},
		{aim(104, beds(104, 202, 401)...), visits(known(202, 401, 202)), []api.ThrowBed{lands(104, 0, 0), lands(202, 2, 2), lands(401, 1, 1)}},
		{aim(105, beds(105, 110, 205, 305)...), visits(total(25), known(305, 305, 305)), []api.ThrowBed{lands(105, 1, 2), lands(110, 0, 2), lands(205, 0, 2), lands(305, 3, 4)}},
	} {
		got, den, at, e := throw.Fit(c.a, c.visits)
		if !same(got, aim(c.a.At, c.want...)) || den != 3*len(c.visits) || at != 0 || e != api.OK {
			t.Error(i, got, den, at, e)
		}
	}
}

// P7.7: the errors in their order, and the visit that has one.
func TestErrorsOfFit(t *testing.T) {
	many := slices.Repeat(visits(total(0)), 1001)
	eleven := aim(101, beds(allBeds()[:11]...)...)
	fine := visits(total(60), known(0, 0, 0), total(100))
	after := func(l ...api.ThrowVisit) []api.ThrowVisit { return append(slices.Clip(fine), l...) }
	for i, c := range []struct {
		a      api.ThrowAim
		visits []api.ThrowVisit
		at     int
		e      api.Errno
	}{
		{eleven, fine, 0, api.ErrLong}, {eleven, nil, 0, api.ErrLong}, {eleven, many, 0, api.ErrLong}, {aim(0, eleven.Beds...), visits(total(-1)), 0, api.ErrLong}, {api.ThrowAim{Beds: make([]api.ThrowBed, 11)}, nil, 0, api.ErrLong},
		{aim(0, beds(101)...), fine, 0, api.ErrArg}, {aim(121, beds(101)...), fine, 0, api.ErrArg}, {aim(-101, beds(101)...), nil, 0, api.ErrArg}, {aim(320), fine, 0, api.ErrArg}, {api.ThrowAim{}, nil, 0, api.ErrArg}, {aim(320), many, 0, api.ErrArg}, {aim(320, beds(0, 0)...), fine, 0, api.ErrArg}, {aim(320, beds(101, 0)...), nil, 0, api.ErrArg}, {aim(320, beds(0, 101, 325)...), many, 0, api.ErrArg}, {aim(320, beds(0, 220, 120)...), visits(total(-1)), 0, api.ErrArg}, {aim(320, beds(-1, 0)...), fine, 0, api.ErrArg}, {aim(math.MaxInt, beds(0)...), fine, 0, api.ErrArg}, {aim(320, beds(0, math.MaxInt)...), fine, 0, api.ErrArg},
		{five(), nil, 0, api.ErrNone}, {five(), visits(), 0, api.ErrNone},
		{five(), many, 0, api.ErrLong}, {five(), slices.Repeat(visits(total(-1)), 1001), 0, api.ErrLong},
		{five(), after(known(320)), 3, api.ErrForm}, {five(), after(known(320, 120)), 3, api.ErrForm}, {five(), after(known(320, 0, 0, 0)), 3, api.ErrForm}, {five(), visits(known(0)), 0, api.ErrForm}, {five(), after(api.ThrowVisit{Darts: list(320, 0, 0), Total: 60}), 3, api.ErrForm}, {five(), after(api.ThrowVisit{Darts: list(0, 0, 0), Total: -1}), 3, api.ErrForm}, {five(), after(api.ThrowVisit{Darts: list(0, 0), Total: 241}), 3, api.ErrForm}, {five(), after(api.ThrowVisit{Darts: list(420, 7, 0), Total: 1}), 3, api.ErrForm}, {five(), after(known(420, 7)), 3, api.ErrForm},
		{five(), after(total(-1)), 3, api.ErrRange}, {five(), after(total(241)), 3, api.ErrRange}, {five(), visits(total(math.MinInt)), 0, api.ErrRange}, {five(), visits(total(math.MaxInt)), 0, api.ErrRange}, {five(), visits(total(240), total(241)), 0, api.ErrState},
		{five(), after(total(8)), 3, api.ErrState}, {five(), after(total(179)), 3, api.ErrState}, {five(), after(total(240)), 3, api.ErrState}, {five(), after(known(0, 0, 102)), 3, api.ErrState}, {five(), after(known(102, 0, 0)), 3, api.ErrState}, {five(), after(known(0, 220, 0)), 3, api.ErrState}, {five(), after(known(0, -1, 0)), 3, api.ErrState}, {five(), after(known(math.MaxInt, 0, math.MinInt)), 3, api.ErrState}, {aim(101, beds(101)...), visits(total(3), total(0)), 1, api.ErrState}, {aim(101, beds(101)...), visits(total(3), known(101, 101, 0)), 1, api.ErrState}, {aim(101, beds(102)...), visits(total(6), total(7)), 1, api.ErrState},
		// The first visit with an error decides.
		{five(), visits(total(8), total(-1), known(0)), 0, api.ErrState}, {five(), visits(total(0), total(-1), known(0)), 1, api.ErrRange}, {five(), visits(total(0), total(0), known(0), total(-1)), 2, api.ErrForm}, {five(), append(slices.Clone(many[:999]), total(4)), 999, api.ErrState},
	} {
		got, den, at, e := throw.Fit(c.a, c.visits)
		if !same(got, api.ThrowAim{}) || den != 0 || at != c.at || e != c.e {
			t.Error(i, got, den, at, e)
		}
	}
}

// landed is how many darts are in each of a few beds.
type landed [5]int

// visitByText returns what three darts of the beds of an aim can be in a visit.
func visitByText(a api.ThrowAim, v api.ThrowVisit) map[landed]bool {
	found := map[landed]bool{}
	for first := range a.Beds {
		for second := range a.Beds {
			for third := range a.Beds {
				var l landed
				thrown, sum := list(), 0
				for _, n := range ints(first, second, third) {
					l[n]++
					thrown = append(thrown, a.Beds[n].Bed)
					sum += scoreByText(a.Beds[n].Bed)
				}
				if slices.Equal(thrown, v.Darts) || len(v.Darts) == 0 && sum == v.Total {
					found[l] = true
				}
			}
		}
	}
	return found
}

// fitByText returns what Fit should return, from all truths of all visits together, or the first visit that has none.
func fitByText(a api.ThrowAim, l []api.ThrowVisit) (api.ThrowAim, int, api.Errno) {
	truths := map[landed]bool{{}: true}
	for i, v := range l {
		more := map[landed]bool{}
		for add := range visitByText(a, v) {
			for truth := range truths {
				for n := range add {
					truth[n] += add[n]
				}
				more[truth] = true
			}
		}
		if len(more) == 0 {
			return api.ThrowAim{}, i, api.ErrState
		}
		truths = more
	}
	fitted := aim(a.At)
	for i, b := range a.Beds {
		var numbers []int
		for truth := range truths {
			numbers = append(numbers, truth[i])
		}
		fitted.Beds = append(fitted.Beds, lands(b.Bed, slices.Min(numbers), slices.Max(numbers)))
	}
	return fitted, 0, api.OK
}

// randomVisits returns visits with darts of the beds of an aim, of which some are known as totals only.
func randomVisits(r *rand.Rand, a api.ThrowAim, most int) (truth, said []api.ThrowVisit) {
	for range 1 + r.IntN(most) {
		v, sum := api.ThrowVisit{}, 0
		for range 3 {
			bed := some(r, a.Beds...).Bed
			v.Darts = append(v.Darts, bed)
			sum += scoreByText(bed)
		}
		truth = append(truth, v)
		said = append(said, some(r, v, total(sum), total(sum)))
	}
	return truth, said
}

// P7.7: the truths of all visits, by the text of the chapter.
func TestFitByText(t *testing.T) {
	r := rand.New(rand.NewPCG(9, 10))
	wide, impossible := 0, 0
	for range 1000 {
		a := randomAim(r, 5, 5)
		_, said := randomVisits(r, a, 6)
		if r.IntN(5) == 0 {
			said = append(said, some(r, total(r.IntN(241)), known(some(r, allBeds()...), some(r, a.Beds...).Bed, 0)))
			_, more := randomVisits(r, a, 2)
			said = append(said, more...)
		}
		want, i, f := fitByText(a, said)
		den := 3 * len(said)
		if f != api.OK {
			den = 0
			impossible++
		}
		if slices.ContainsFunc(want.Beds, func(b api.ThrowBed) bool { return b.Chance.Low < b.Chance.High }) {
			wide++
		}
		if got, d, at, e := throw.Fit(a, said); !same(got, want) || d != den || at != i || e != f {
			t.Fatal(a, said, got, d, at, e)
		}
	}
	if wide < 100 || impossible < 50 {
		t.Error(wide, impossible)
	}
}
