package mean

import "oche/api"

// The scores from which on a visit is a ton or a high one, and that of a top one.
const (
	ton  = 100
	high = 140
	top  = 180
)

// sum returns what legs come to with the first visits of each, at most so many, or the number of the first leg that is wrong.
func sum(l []api.MeanLeg, most int) (api.MeanTotal, int, api.Errno) {
	if len(l) > api.MaxMeanLegs {
		return api.MeanTotal{}, 0, api.ErrLong
	}
	t := api.MeanTotal{Legs: len(l)}
	for i, one := range l {
		visits, _, e := Visits(one)
		if e != api.OK {
			return api.MeanTotal{}, i, e
		}
		for visit, v := range visits[:min(most, len(visits))] {
			add(&t, v, one.Scores[visit], wonBy(one, visit))
		}
	}
	return t, 0, api.OK
}

// wonBy reports whether the visit with this number is the one that has won a leg.
func wonBy(l api.MeanLeg, visit int) bool { return l.Won && visit == len(l.Scores)-1 }

// add adds a visit, with its score and whether it has won, to a total.
func add(t *api.MeanTotal, v api.MeanVisit, score int, won bool) {
	t.Visits++
	t.Points += score
	t.Darts = together(t.Darts, v.Darts)
	t.Tried = together(t.Tried, v.Tried)
	if won {
		t.Won++
		t.Best = max(t.Best, score)
	}
	counters := [...]*int{&t.Tons, &t.Highs, &t.Tops}
	for i, counts := range [...]bool{score >= ton, score >= high, score == top} {
		if counts {
			*counters[i]++
		}
	}
}

// together returns the span of what a number of each of both spans comes to.
func together(a, b api.Span) api.Span { return api.Span{Low: a.Low + b.Low, High: a.High + b.High} }

// exactly returns the span of one number.
func exactly(n int) api.Span { return api.Span{Low: n, High: n} }
