package throw_test

import (
	"math"
	"math/rand/v2"
	"reflect"
	"slices"

	"oche/api"
	"oche/throw"
)

// to returns a span, and one a span of one number.
func to(low, high int) api.Span { return api.Span{Low: low, High: high} }

func one(n int) api.Span { return to(n, n) }

// spans returns its arguments, and so do the following ones.
func spans(l ...api.Span) []api.Span { return l }

func list(beds ...api.Bed) []api.Bed { return beds }

func ints(l ...int) []int { return l }

func visits(l ...api.ThrowVisit) []api.ThrowVisit { return l }

// lands returns a bed, and how many darts land there.
func lands(bed api.Bed, low, high int) api.ThrowBed {
	return api.ThrowBed{Bed: bed, Chance: to(low, high)}
}

// aim and law return an aim and a law.
func aim(at api.Bed, beds ...api.ThrowBed) api.ThrowAim { return api.ThrowAim{At: at, Beds: beds} }

func law(den int, aims ...api.ThrowAim) api.ThrowLaw { return api.ThrowLaw{Den: den, Aims: aims} }

// example returns the law of the chapter's examples.
func example() api.ThrowLaw {
	return law(10,
		aim(320, lands(120, 4, 6), lands(205, 0, 1), lands(301, 1, 2), lands(320, 2, 4)),
		aim(225, lands(125, 6, 8), lands(225, 0, 9)))
}

// beds returns beds in which any number of darts can land, or for Fit, in which no number is said.
func beds(l ...api.Bed) []api.ThrowBed {
	var all []api.ThrowBed
	for _, bed := range l {
		all = append(all, lands(bed, 0, 0))
	}
	return all
}

// total and known return visits.
func total(n int) api.ThrowVisit { return api.ThrowVisit{Total: n} }

func known(beds ...api.Bed) api.ThrowVisit { return api.ThrowVisit{Darts: beds} }

// some returns one of its arguments.
func some[T any](r *rand.Rand, l ...T) T { return l[r.IntN(len(l))] }

// numbers are numbers that no list or limit allows, or only just.
func numbers() []int {
	return []int{math.MinInt, math.MinInt + 1, -1000000000001, -1000000000000, -101, -2, -1, 0, 1, 2, 3, 4, 10, 11, 20, 21, 101, 121, 125, 225, 240, 241, 325, 420, 421, 3000, 3001, 1000000000000, 1000000000001, math.MaxInt - 1, math.MaxInt}
}

// allBeds returns all beds and the miss, ascending.
func allBeds() []api.Bed {
	l := list(api.Miss, api.Bull, api.Eye)
	for factor := range 4 {
		for number := range 20 {
			l = append(l, api.Bed(100*(factor+1)+number+1))
		}
	}
	slices.Sort(l)
	return l
}

// scoreByText returns the score of a bed, by the text of DOC.md.
func scoreByText(bed api.Bed) int { return int(bed/100) * int(bed%100) }

// scoresByText returns the scores of the beds of an aim.
func scoresByText(a api.ThrowAim) []int {
	var l []int
	for _, b := range a.Beds {
		l = append(l, scoreByText(b.Bed))
	}
	return l
}

// truthsByText returns all truths of an aim, by the text of the chapter.
func truthsByText(a api.ThrowAim, den int) [][]int {
	var truths [][]int
	var choose func(chosen []int, left int)
	choose = func(chosen []int, left int) {
		if len(chosen) == len(a.Beds) {
			if left == 0 {
				truths = append(truths, chosen)
			}
			return
		}
		for n := a.Beds[len(chosen)].Chance.Low; n <= a.Beds[len(chosen)].Chance.High; n++ {
			choose(append(slices.Clip(chosen), n), left-n)
		}
	}
	choose(nil, den)
	return truths
}

// meanByText returns the mean of values in a truth.
func meanByText(truth, values []int) int {
	mean := 0
	for i, n := range truth {
		mean += n * values[i]
	}
	return mean
}

// meansByText returns the least span of the means of all truths.
func meansByText(a api.ThrowAim, den int, values []int) api.Span {
	var means []int
	for _, truth := range truthsByText(a, den) {
		means = append(means, meanByText(truth, values))
	}
	return to(slices.Min(means), slices.Max(means))
}

// randomAim returns an aim that is valid for a Den, at any beds.
func randomAim(r *rand.Rand, den, most int) api.ThrowAim {
	for {
		a := aim(some(r, allBeds()[1:]...))
		where := list()
		for range 1 + r.IntN(most) {
			where = append(where, some(r, some(r, allBeds()...), some(r, list(0, 101, 102, 105, 110, 201, 205)...)))
		}
		slices.Sort(where)
		for _, bed := range slices.Compact(where) {
			low := r.IntN(den + 1)
			if r.IntN(3) > 0 {
				low = r.IntN(low + 1)
			}
			if r.IntN(3) > 0 {
				low = r.IntN(low + 1)
			}
			a.Beds = append(a.Beds, lands(bed, low, low+r.IntN(den-low+1)))
		}
		if throw.Check(law(den, a)) == api.OK {
			return a
		}
	}
}

// randomLaw returns a small law.
func randomLaw(r *rand.Rand, den, aims, beds int) api.ThrowLaw {
	l := law(1 + r.IntN(den))
	for range 1 + r.IntN(aims) {
		l.Aims = append(l.Aims, randomAim(r, l.Den, beds))
	}
	return l
}

// randomValues returns values for the beds of an aim, of which some are equal.
func randomValues(r *rand.Rand, a api.ThrowAim) []int {
	var l []int
	most := some(r, 1, 3, 50, 1000000000000)
	for range a.Beds {
		l = append(l, r.IntN(2*most+1)-most)
	}
	return l
}

// clone returns a copy that shares no memory.
func clone(l api.ThrowLaw) api.ThrowLaw {
	l.Aims = slices.Clone(l.Aims)
	for i := range l.Aims {
		l.Aims[i].Beds = slices.Clone(l.Aims[i].Beds)
	}
	return l
}

// same compares any values.
func same(a, b any) bool { return reflect.DeepEqual(a, b) }
