package duel_test

import (
	"iter"
	"math"
	"math/rand/v2"
	"reflect"
	"slices"

	"oche/api"
	"oche/duel"
)

// whole is all millionths.
const whole = api.Whole

// to returns a span, and one a span of one number.
func to(low, high int) api.Span { return api.Span{Low: low, High: high} }

func one(n int) api.Span { return to(n, n) }

// ints returns its arguments, and so do spans and rows.
func ints(l ...int) []int { return l }

func spans(l ...api.Span) []api.Span { return l }

func rows(l ...[]int) [][]int { return l }

// at returns a position.
func at(round, start, left, darts int) api.DuelPosition {
	return api.DuelPosition{Round: round, Start: start, Left: left, Darts: darts}
}

// lands returns a bed, and how many darts land there.
func lands(bed api.Bed, low, high int) api.ThrowBed {
	return api.ThrowBed{Bed: bed, Chance: to(low, high)}
}

// throws returns an aim, and sure one that always hits the bed, with Den 2.
func throws(at api.Bed, beds ...api.ThrowBed) api.ThrowAim { return api.ThrowAim{At: at, Beds: beds} }

func sure(bed api.Bed) api.ThrowAim { return throws(bed, lands(bed, 2, 2)) }

// half hits a bed with each second dart, and nothing with the others, with Den 2; wild hits it with any of the darts.
func half(bed api.Bed) api.ThrowAim { return throws(bed, lands(0, 1, 1), lands(bed, 1, 1)) }

func wild(bed api.Bed) api.ThrowAim { return throws(bed, lands(0, 0, 2), lands(bed, 0, 2)) }

// rules returns rules with Den 2, whose last visit of the opponent ends the leg.
func rules(start int, out api.Gate, ends []api.Span, aims ...api.ThrowAim) api.DuelRules {
	return api.DuelRules{Law: api.ThrowLaw{Den: 2, Aims: aims}, Start: start, Out: out, Ends: append(slices.Clone(ends), one(whole))}
}

// example is the law of the chapter's examples, with what the opponent does before the last visit.
func example(ends ...api.Span) api.DuelRules { return rules(2, api.GateDouble, ends, half(201)) }

// changed returns the same table, with another number for a round and a score.
func changed(table [][]int, round, score, number int) [][]int {
	table = copied(table)
	table[round][score] = number
	return table
}

// copied returns a copy of a table that shares no memory.
func copied(table [][]int) [][]int {
	table = slices.Clone(table)
	for i := range table {
		table[i] = slices.Clone(table[i])
	}
	return table
}

// numbers are numbers that no list or limit allows, or only just.
func numbers() []int {
	return []int{math.MinInt, math.MinInt + 1, -whole, -1, 0, 1, 2, 3, 4, 5, 9, 10, 11, 20, 21, 39, 40, 41, 101, 120, 121, 201, 225, 3000, 3001, whole - 1, whole, whole + 1, math.MaxInt - 1, math.MaxInt}
}

// some returns one of its arguments.
func some[T any](r *rand.Rand, l ...T) T { return l[r.IntN(len(l))] }

// scores yields all rounds and scores of a table that can have a number, round by round.
func scores(r api.DuelRules) iter.Seq2[int, int] {
	return func(yield func(int, int) bool) {
		for round := range r.Ends {
			for score := lowestByText(r); score <= r.Start; score++ {
				if !yield(round, score) {
					return
				}
			}
		}
	}
}

// positions yields all positions that the text allows.
func positions(r api.DuelRules) iter.Seq[api.DuelPosition] {
	return func(yield func(api.DuelPosition) bool) {
		for round, start := range scores(r) {
			for left := lowestByText(r); left <= start; left++ {
				for darts := 1; darts <= 3; darts++ {
					if (darts < 3 || left == start) && !yield(at(round, start, left, darts)) {
						return
					}
				}
			}
		}
	}
}

// lowestByText returns what is left at least.
func lowestByText(r api.DuelRules) int { return map[api.Gate]int{0: 1, 1: 2, 2: 2}[r.Out] }

// truthsByText returns all truths of an aim of so many darts.
func truthsByText(a api.ThrowAim, den int) [][]int {
	if len(a.Beds) == 0 {
		return map[bool][][]int{true: {{}}}[den == 0]
	}
	var truths [][]int
	chance := a.Beds[0].Chance
	for n := chance.Low; n <= chance.High; n++ {
		for _, rest := range truthsByText(throws(a.At, a.Beds[1:]...), den-n) {
			truths = append(truths, append(ints(n), rest...))
		}
	}
	return truths
}

// dartByText returns what C2 says of a dart of a player who is in: what is left, or whether it is bust.
func dartByText(out api.Gate, left int, bed api.Bed) (after int, bust bool) {
	factor := int(bed) / 100
	after = left - factor*(int(bed)%100)
	opens := map[api.Gate]bool{0: factor > 0, 1: factor == 2, 2: factor > 1}[out]
	if bed == 0 || after == 0 && opens || after >= 2 || after == 1 && out == 0 {
		return after, false
	}
	return 0, true
}

// text finds values by the text of the chapter.
type text struct {
	r     api.DuelRules
	table [][]int
	most  bool
	done  map[api.DuelPosition]int
}

// byText returns what finds values of a table by the text.
func byText(r api.DuelRules, table [][]int, most bool) text {
	return text{r, table, most, map[api.DuelPosition]int{}}
}

// rounded returns a fraction, rounded down or up.
func (t text) rounded(num, den int) int {
	if t.most {
		return int(math.Ceil(float64(num) / float64(den)))
	}
	return int(math.Floor(float64(num) / float64(den)))
}

// after returns the low value after a visit, or the high one.
func (t text) after(round, left int) int {
	if round+1 == len(t.r.Ends) {
		return 0
	}
	end := t.r.Ends[round].High
	if t.most {
		end = t.r.Ends[round].Low
	}
	return t.rounded(t.table[round+1][left]*(whole-end), whole)
}

// value returns the low value of a position, or the high one.
func (t text) value(p api.DuelPosition) int {
	if _, ok := t.done[p]; !ok {
		t.done[p] = slices.Max(t.means(p))
	}
	return t.done[p]
}

// means returns the low means of all aims, or the high ones.
func (t text) means(p api.DuelPosition) []int {
	var means []int
	for _, a := range t.r.Law.Aims {
		means = append(means, t.mean(a, p))
	}
	return means
}

// next returns the value of what comes next for a bed.
func (t text) next(bed api.Bed, p api.DuelPosition) int {
	left, bust := dartByText(t.r.Out, p.Left, bed)
	switch {
	case bust:
		return t.after(p.Round, p.Start)
	case left == 0:
		return whole
	case p.Darts == 1:
		return t.after(p.Round, left)
	}
	return t.value(at(p.Round, p.Start, left, p.Darts-1))
}

// mean returns the low mean of an aim, or the high one.
func (t text) mean(a api.ThrowAim, p api.DuelPosition) int {
	var sums []int
	for _, truth := range truthsByText(a, t.r.Law.Den) {
		sum := 0
		for i, n := range truth {
			sum += n * t.next(a.Beds[i].Bed, p)
		}
		sums = append(sums, sum)
	}
	if t.most {
		return t.rounded(slices.Max(sums), t.r.Law.Den)
	}
	return t.rounded(slices.Min(sums), t.r.Law.Den)
}

// tableByText returns the table of the text.
func tableByText(r api.DuelRules, most bool) [][]int {
	table := make([][]int, len(r.Ends))
	for round := len(table) - 1; round >= 0; round-- {
		table[round] = make([]int, r.Start+1)
		t := byText(r, table, most)
		for score := lowestByText(r); score <= r.Start; score++ {
			table[round][score] = t.value(at(round, score, score, 3))
		}
	}
	return table
}

// provesByText returns whether all inequalities hold, or the first round and score whose one does not.
func provesByText(r api.DuelRules, table [][]int, most bool) (bool, int, int) {
	t := byText(r, table, most)
	for round, score := range scores(r) {
		number, value := table[round][score], t.value(at(round, score, score, 3))
		if most && number < value || !most && number > value {
			return false, round, score
		}
	}
	return true, 0, 0
}

// randomAim returns an aim that is valid for a Den, most of whose beds are small.
func randomAim(r *rand.Rand, den, beds int) api.ThrowAim {
	for {
		a := throws(some[api.Bed](r, 101, 201, 320, 225))
		where := map[api.Bed]bool{}
		for range 1 + r.IntN(beds) {
			small := api.Bed(100*(1+r.IntN(3)) + 1 + r.IntN(6))
			where[some(r, 0, 101, 201, small, small, small, 100+api.Bed(1+r.IntN(20)))] = true
		}
		for bed := api.Miss; bed < 500; bed++ {
			if where[bed] {
				low := r.IntN(r.IntN(den+1) + 1)
				a.Beds = append(a.Beds, lands(bed, low, low+r.IntN(den-low+1)))
			}
		}
		l := rules(2, 0, nil, a)
		l.Law.Den = den
		if duel.Check(l) == api.OK {
			return a
		}
	}
}

// randomEnds returns what an opponent does before the last visit, in fewer than so many visits.
func randomEnds(r *rand.Rand, rounds int) []api.Span {
	var ends []api.Span
	for range r.IntN(rounds) {
		low := some(r, 0, r.IntN(whole+1), r.IntN(whole/5), whole)
		ends = append(ends, to(low, some(r, low, low+r.IntN(whole-low+1), whole)))
	}
	return ends
}

// randomRules returns rules of a small law.
func randomRules(r *rand.Rand, den, start, rounds, aims, beds int) api.DuelRules {
	l := rules(2+r.IntN(start-1), some[api.Gate](r, 0, 1, 1, 2), randomEnds(r, rounds))
	l.Law.Den = 1 + r.IntN(den)
	for range 1 + r.IntN(aims) {
		l.Law.Aims = append(l.Law.Aims, randomAim(r, l.Law.Den, beds))
	}
	return l
}

// clone returns a copy that shares no memory.
func clone(r api.DuelRules) api.DuelRules {
	r.Ends, r.Law.Aims = slices.Clone(r.Ends), slices.Clone(r.Law.Aims)
	for i := range r.Law.Aims {
		r.Law.Aims[i].Beds = slices.Clone(r.Law.Aims[i].Beds)
	}
	return r
}

// same compares any values.
func same(a, b any) bool { return reflect.DeepEqual(a, b) }
