package aim_test

import (
	"iter"
	"math"
	"math/rand/v2"
	"reflect"
	"slices"

	"oche/aim"
	"oche/api"
)

// never and most are the number of a score that is not surely ended, and the greatest one of all others.
const (
	never = api.AimNever
	most  = api.MaxAimValue
)

// to returns a span.
func to(low, high int) api.Span { return api.Span{Low: low, High: high} }

// ints returns its arguments, and so does spans.
func ints(l ...int) []int { return l }

func spans(l ...api.Span) []api.Span { return l }

// place returns a position.
func place(start, left, darts int) api.AimPosition {
	return api.AimPosition{Start: start, Left: left, Darts: darts}
}

// lands returns a bed, and how many darts land there.
func lands(bed api.Bed, low, high int) api.ThrowBed {
	return api.ThrowBed{Bed: bed, Chance: to(low, high)}
}

// throws returns an aim, and sure one that always hits the bed, with Den 2.
func throws(at api.Bed, beds ...api.ThrowBed) api.ThrowAim { return api.ThrowAim{At: at, Beds: beds} }

func sure(bed api.Bed) api.ThrowAim { return throws(bed, lands(bed, 2, 2)) }

// half hits the double 1 with each second dart, with Den 2.
func half() api.ThrowAim { return throws(201, lands(0, 1, 1), lands(201, 1, 1)) }

// rules returns rules.
func rules(den, start int, out api.Gate, aims ...api.ThrowAim) api.AimRules {
	return api.AimRules{Law: api.ThrowLaw{Den: den, Aims: aims}, Start: start, Out: out}
}

// one is the law of the chapter's first example.
func one(start int) api.AimRules { return rules(2, start, api.GateDouble, half()) }

// changed returns the same numbers, with another one for a score.
func changed(numbers []int, score, number int) []int {
	numbers = slices.Clone(numbers)
	numbers[score] = number
	return numbers
}

// numbers are numbers that no list or limit allows, or only just.
func numbers() []int {
	return []int{math.MinInt, math.MinInt + 1, -2000000000, -1000000, -1, 0, 1, 2, 3, 4, 5, 20, 21, 59, 60, 61, 101, 120, 121, 201, 225, 3000, 3001, 999999, 1000000, 1000001, most, most + 1, never - 1, never, never + 1, math.MaxInt - 1, math.MaxInt}
}

// some returns one of its arguments.
func some[T any](r *rand.Rand, l ...T) T { return l[r.IntN(len(l))] }

// positions yields all positions that the text allows.
func positions(r api.AimRules) iter.Seq[api.AimPosition] {
	return func(yield func(api.AimPosition) bool) {
		for start := lowestByText(r); start <= r.Start; start++ {
			for left := lowestByText(r); left <= start; left++ {
				for darts := 1; darts <= 3; darts++ {
					if (darts < 3 || left == start) && !yield(place(start, left, darts)) {
						return
					}
				}
			}
		}
	}
}

// lowestByText returns what is left at least.
func lowestByText(r api.AimRules) int { return map[api.Gate]int{0: 1, 1: 2, 2: 2}[r.Out] }

// truthsByText returns all truths of an aim of so many darts.
func truthsByText(a api.ThrowAim, den int) [][]int {
	if len(a.Beds) == 0 {
		return map[bool][][]int{true: {{}}}[den == 0]
	}
	var truths [][]int
	chance := a.Beds[0].Chance
	for n := chance.Low; n <= chance.High; n++ {
		for _, rest := range truthsByText(throws(a.At, a.Beds[1:]...), den-n) {
			truths = append(truths, append(ints(n), rest...))
		}
	}
	return truths
}

// dartByText returns what C2 says of a dart of a player who is in: what is left, or whether it is bust.
func dartByText(out api.Gate, left int, bed api.Bed) (after int, bust bool) {
	factor := int(bed) / 100
	after = left - factor*(int(bed)%100)
	opens := map[api.Gate]bool{0: factor > 0, 1: factor == 2, 2: factor > 1}[out]
	if bed == 0 || after == 0 && opens || after >= 2 || after == 1 && out == 0 {
		return after, false
	}
	return 0, true
}

// text finds values by the text of the chapter.
type text struct {
	r     api.AimRules
	table []int
	least bool
	done  map[api.AimPosition]int
}

// byText returns what finds values of a table by the text.
func byText(r api.AimRules, table []int, least bool) text {
	return text{r, table, least, map[api.AimPosition]int{}}
}

// value returns the worst value of a position, or the best one.
func (t text) value(p api.AimPosition) int {
	if p.Darts == 0 {
		return t.table[p.Left]
	}
	if _, ok := t.done[p]; !ok {
		t.done[p] = slices.Min(t.means(p))
	}
	return t.done[p]
}

// means returns the worst means of all aims, or the best ones.
func (t text) means(p api.AimPosition) []int {
	var means []int
	for _, a := range t.r.Law.Aims {
		means = append(means, t.mean(a, p))
	}
	return means
}

// next returns the values of what comes next, for each bed of an aim.
func (t text) next(a api.ThrowAim, p api.AimPosition) []int {
	var next []int
	for _, b := range a.Beds {
		switch after, bust := dartByText(t.r.Out, p.Left, b.Bed); {
		case bust:
			next = append(next, t.table[p.Start])
		case after == 0:
			next = append(next, 0)
		default:
			next = append(next, t.value(place(p.Start, after, p.Darts-1)))
		}
	}
	return next
}

// mean returns the worst mean of an aim, or the best one.
func (t text) mean(a api.ThrowAim, p api.AimPosition) int {
	var means []int
	next := t.next(a, p)
	for _, truth := range truthsByText(a, t.r.Law.Den) {
		mean := 0
		for i, n := range truth {
			if n > 0 && next[i] == never {
				return never
			}
			mean += n * next[i]
		}
		means = append(means, mean)
	}
	if t.least {
		return slices.Min(means) / t.r.Law.Den
	}
	return int(math.Ceil(float64(slices.Max(means)) / float64(t.r.Law.Den)))
}

// inequality reports whether the inequality of a score holds.
func inequality(r api.AimRules, table []int, least bool, score int) bool {
	needs := 1000000 + byText(r, table, least).value(place(score, score, 3))
	if least {
		return needs >= table[score]
	}
	return table[score] == never || needs <= table[score]
}

// provesByText returns the smallest score whose inequality does not hold, or 0.
func provesByText(r api.AimRules, table []int, least bool) int {
	for score := lowestByText(r); score <= r.Start; score++ {
		if !inequality(r, table, least, score) {
			return score
		}
	}
	return 0
}

// randomAim returns an aim that is valid for a Den, most of whose beds are small.
func randomAim(r *rand.Rand, den, beds int) api.ThrowAim {
	for {
		a := throws(some[api.Bed](r, 101, 201, 320, 225))
		where := map[api.Bed]bool{}
		for range 1 + r.IntN(beds) {
			small := api.Bed(100*(1+r.IntN(3)) + 1 + r.IntN(6))
			where[some(r, 0, 101, 201, small, small, small, 100+api.Bed(1+r.IntN(20)))] = true
		}
		for bed := api.Miss; bed < 500; bed++ {
			if where[bed] {
				low := r.IntN(r.IntN(den+1) + 1)
				a.Beds = append(a.Beds, lands(bed, low, low+r.IntN(den-low+1)))
			}
		}
		if aim.Check(rules(den, 2, 0, a)) == api.OK {
			return a
		}
	}
}

// randomRules returns rules of a small law.
func randomRules(r *rand.Rand, den, start, aims, beds int) api.AimRules {
	l := rules(1+r.IntN(den), 2+r.IntN(start-1), some[api.Gate](r, 0, 1, 1, 2))
	for range 1 + r.IntN(aims) {
		l.Law.Aims = append(l.Law.Aims, randomAim(r, l.Law.Den, beds))
	}
	return l
}

// clone returns a copy that shares no memory.
func clone(r api.AimRules) api.AimRules {
	r.Law.Aims = slices.Clone(r.Law.Aims)
	for i := range r.Law.Aims {
		r.Law.Aims[i].Beds = slices.Clone(r.Law.Aims[i].Beds)
	}
	return r
}

// same compares any values.
func same(a, b any) bool { return reflect.DeepEqual(a, b) }
