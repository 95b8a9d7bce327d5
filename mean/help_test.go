package mean_test

import (
	"math"
	"math/rand/v2"
	"slices"

	"oche/api"
)

// The gates by shorter names.
const (
	free   = api.GateAny
	double = api.GateDouble
	master = api.GateMaster
)

// The ends by shorter names.
const (
	fewDarts  = api.MeanFewDarts
	manyDarts = api.MeanManyDarts
	fewTried  = api.MeanFewTried
	manyTried = api.MeanManyTried
)

// ends returns the ends of all spans.
func ends() []api.MeanEnd { return []api.MeanEnd{fewDarts, manyDarts, fewTried, manyTried} }

// to returns a span, and one a span of one number.
func to(low, high int) api.Span { return api.Span{Low: low, High: high} }

func one(n int) api.Span { return to(n, n) }

// visit returns the spans of a visit.
func visit(darts, tried api.Span) api.MeanVisit { return api.MeanVisit{Darts: darts, Tried: tried} }

// spans returns its arguments, and so do the following ones.
func spans(l ...api.MeanVisit) []api.MeanVisit { return l }

func list(beds ...api.Bed) []api.Bed { return beds }

func lists(l ...[]api.Bed) [][]api.Bed { return l }

func scores(l ...int) []int { return l }

func legs(l ...api.MeanLeg) []api.MeanLeg { return l }

// count returns laws.
func count(start int, in, out api.Gate) api.Count { return api.Count{Start: start, In: in, Out: out} }

// leg returns a leg without any visit.
func leg(c api.Count, beds ...api.Bed) api.MeanLeg { return api.MeanLeg{Count: c, Beds: beds} }

// scored returns a leg with other scores, which is not won, and won one that is.
func scored(l api.MeanLeg, scores ...int) api.MeanLeg {
	l.Scores, l.Won = scores, false
	return l
}

func won(l api.MeanLeg, scores ...int) api.MeanLeg {
	l.Scores, l.Won = scores, true
	return l
}

// plain returns the laws and beds of the chapter's examples, and example the leg of the first of them.
func plain() api.MeanLeg { return leg(count(101, free, double), 101, 120, 201, 220, 320) }

func example() api.MeanLeg { return won(plain(), 61, 0, 40) }

// allBeds returns all beds but the miss up to a factor, ascending.
func allBeds(factors int) []api.Bed {
	beds := list(api.Bull, api.Eye)
	for factor := range factors {
		for number := range 20 {
			beds = append(beds, api.Bed(100*(factor+1)+number+1))
		}
	}
	slices.Sort(beds)
	return beds
}

// usual returns the laws and beds of a usual leg.
func usual(start int) api.MeanLeg { return leg(count(start, free, double), allBeds(3)...) }

// some returns one of its arguments.
func some[T any](r *rand.Rand, l ...T) T { return l[r.IntN(len(l))] }

// numbers are numbers that no list or limit allows, or only just.
func numbers() []int {
	return []int{math.MinInt, math.MinInt + 1, -1000001, -101, -2, -1, 0, 1, 2, 3, 4, 5, 6, 40, 60, 100, 101, 180, 240, 1001, 1002, 999999, 1000000, 1000001, 3000000, 3000001, math.MaxInt - 1, math.MaxInt}
}

// fraction and bounds return a fraction and a range.
func fraction(num, den int) api.MeanFraction { return api.MeanFraction{Num: num, Den: den} }

func bounds(lowNum, lowDen, highNum, highDen int) api.MeanRange {
	return api.MeanRange{Low: fraction(lowNum, lowDen), High: fraction(highNum, highDen)}
}

// sameLists compares lists of lists.
func sameLists(a, b [][]api.Bed) bool { return slices.EqualFunc(a, b, slices.Equal[[]api.Bed]) }

// sameLegs compares legs.
func sameLegs(a, b api.MeanLeg) bool {
	return a.Count == b.Count && slices.Equal(a.Beds, b.Beds) && slices.Equal(a.Scores, b.Scores) && a.Won == b.Won
}

// opens reports whether a bed opens a gate, by the text of DOC.md.
func opens(bed api.Bed, gate api.Gate) bool {
	switch factor := int(bed / 100); gate {
	case double:
		return factor == 2
	case master:
		return factor >= 2
	default:
		return bed != api.Miss
	}
}

// What a dart does, by the text of C2.
const (
	nothing = "nothing"
	bust    = "bust"
	wins    = "wins"
)

// dartByText returns what is left after a dart, and whether the player is in, by the text of C2.
func dartByText(c api.Count, now api.HeardStand, bed api.Bed) (after api.HeardStand, does string) {
	if !now.In && !opens(bed, c.In) || bed == api.Miss {
		return now, nothing
	}
	switch rest := now.Left - int(bed/100)*int(bed%100); {
	case rest == 0 && opens(bed, c.Out):
		return api.HeardStand{In: true}, wins
	case rest >= 2 || rest == 1 && c.Out == free:
		return api.HeardStand{Left: rest, In: true}, nothing
	default:
		return now, bust
	}
}

// thrown is a visit: its darts, how many of them were thrown at a finish, the stands before and after it, and whether it has won.
type thrown struct {
	beds          []api.Bed
	tried         int
	before, after api.HeardStand
	won           bool
}

// score returns the score of a visit.
func (v thrown) score() int { return v.before.Left - v.after.Left }

// atFinish reports whether a dart is thrown at a finish, by the text of the chapter.
func atFinish(l api.MeanLeg, now api.HeardStand) bool {
	return slices.ContainsFunc(l.Beds, func(bed api.Bed) bool {
		_, does := dartByText(l.Count, now, bed)
		return does == wins
	})
}

// visitsByText returns all lists of darts that are a visit from a stand, by the text of C2 and C3.
func visitsByText(l api.MeanLeg, before api.HeardStand) []thrown {
	var visits []thrown
	var throw func(beds []api.Bed, tried int, now api.HeardStand)
	throw = func(beds []api.Bed, tried int, now api.HeardStand) {
		if len(beds) == 3 {
			visits = append(visits, thrown{beds, tried, before, now, false})
			return
		}
		if atFinish(l, now) {
			tried++
		}
		for _, bed := range append(list(api.Miss), l.Beds...) {
			more := append(slices.Clip(beds), bed)
			switch after, does := dartByText(l.Count, now, bed); does {
			case bust:
				visits = append(visits, thrown{more, tried, before, before, false})
			case wins:
				visits = append(visits, thrown{more, tried, before, after, true})
			default:
				throw(more, tried, after)
			}
		}
	}
	throw(nil, 0, before)
	return visits
}

// possibleByText returns all possible visits of each visit of a valid leg, by the text of the chapter, or the number of the first one that is not possible.
func possibleByText(l api.MeanLeg) ([][]thrown, int, api.Errno) {
	var possible [][]thrown
	stand := api.HeardStand{Left: l.Count.Start, In: l.Count.In == free}
	for i, score := range l.Scores {
		others := func(v thrown) bool {
			return v.score() != score || v.won != (l.Won && i == len(l.Scores)-1)
		}
		visits := slices.DeleteFunc(visitsByText(l, stand), others)
		if len(visits) == 0 {
			return nil, i, api.ErrNone
		}
		stand = visits[0].after
		possible = append(possible, visits)
	}
	return possible, 0, api.OK
}

// spansByText returns what Visits should return for the visits that are possible.
func spansByText(possible [][]thrown) []api.MeanVisit {
	var l []api.MeanVisit
	for _, visits := range possible {
		var darts, tried []int
		for _, v := range visits {
			darts, tried = append(darts, len(v.beds)), append(tried, v.tried)
		}
		l = append(l, visit(to(slices.Min(darts), slices.Max(darts)), to(slices.Min(tried), slices.Max(tried))))
	}
	return l
}

// shownByText returns what Show should return for the visits that are possible.
func shownByText(possible [][]thrown, end api.MeanEnd) [][]api.Bed {
	var l [][]api.Bed
	for _, visits := range possible {
		darts := func(v thrown) int { return len(v.beds) }
		tried := func(v thrown) int { return v.tried }
		visits = atEnd(visits, map[api.MeanEnd]func(thrown) int{fewDarts: darts, manyDarts: darts, fewTried: tried, manyTried: tried}[end], end == manyDarts || end == manyTried)
		visits = atEnd(visits, darts, false)
		var all [][]api.Bed
		for _, v := range visits {
			all = append(all, v.beds)
		}
		slices.SortFunc(all, slices.Compare)
		l = append(l, all[0])
	}
	return l
}

// atEnd returns the visits with the least, or the greatest, number.
func atEnd(visits []thrown, number func(thrown) int, greatest bool) []thrown {
	var l []int
	for _, v := range visits {
		l = append(l, number(v))
	}
	end := slices.Min(l)
	if greatest {
		end = slices.Max(l)
	}
	return slices.DeleteFunc(slices.Clone(visits), func(v thrown) bool { return number(v) != end })
}

// totalByText returns what Totals should return for a leg of which these visits are possible, or First if only so many of them count.
func totalByText(l api.MeanLeg, possible [][]thrown, first int) api.MeanTotal {
	t := api.MeanTotal{Legs: 1}
	for i, v := range spansByText(possible) {
		score := l.Scores[i]
		if i >= first {
			break
		}
		t.Visits++
		t.Points += score
		t.Darts.Low, t.Darts.High = t.Darts.Low+v.Darts.Low, t.Darts.High+v.Darts.High
		t.Tried.Low, t.Tried.High = t.Tried.Low+v.Tried.Low, t.Tried.High+v.Tried.High
		if score >= 100 {
			t.Tons++
		}
		if score >= 140 {
			t.Highs++
		}
		if score == 180 {
			t.Tops++
		}
		if l.Won && i == len(l.Scores)-1 {
			t.Won, t.Best = 1, score
		}
	}
	return t
}

// plus returns two totals as one.
func plus(a, b api.MeanTotal) api.MeanTotal {
	return api.MeanTotal{
		Legs: a.Legs + b.Legs, Won: a.Won + b.Won, Visits: a.Visits + b.Visits, Points: a.Points + b.Points,
		Darts: to(a.Darts.Low+b.Darts.Low, a.Darts.High+b.Darts.High), Tried: to(a.Tried.Low+b.Tried.Low, a.Tried.High+b.Tried.High),
		Tons: a.Tons + b.Tons, Highs: a.Highs + b.Highs, Tops: a.Tops + b.Tops, Best: max(a.Best, b.Best),
	}
}

// randomBeds returns a few beds, of which some are low.
func randomBeds(r *rand.Rand) []api.Bed {
	var beds []api.Bed
	for range 1 + r.IntN(5) {
		beds = append(beds, some(r, some(r, allBeds(4)...), some(r, list(101, 102, 103, 104, 201, 202, 203, 301, 302, 401)...), 101, 201))
	}
	slices.Sort(beds)
	return slices.Compact(beds)
}

// randomLaws returns laws with a start up to a limit, and beds.
func randomLaws(r *rand.Rand, most int) api.MeanLeg {
	return leg(count(2+r.IntN(most-1), some(r, free, free, double, master), some(r, free, double, master)), randomBeds(r)...)
}

// randomVisit returns a visit from a stand.
func randomVisit(r *rand.Rand, l api.MeanLeg, before api.HeardStand) thrown {
	v := thrown{before: before, after: before}
	for len(v.beds) < 3 {
		bed := some(r, append(list(api.Miss), l.Beds...)...)
		if atFinish(l, v.after) {
			v.tried++
		}
		v.beds = append(v.beds, bed)
		after, does := dartByText(l.Count, v.after, bed)
		if does == bust {
			v.after = before
			break
		}
		v.after, v.won = after, does == wins
		if v.won {
			break
		}
	}
	return v
}

// randomTruth returns a leg by laws, and what truly was thrown in it.
func randomTruth(r *rand.Rand, l api.MeanLeg, most int) (api.MeanLeg, []thrown) {
	var truth []thrown
	stand := api.HeardStand{Left: l.Count.Start, In: l.Count.In == free}
	for visits := r.IntN(most + 1); len(truth) < visits && !l.Won; {
		v := randomVisit(r, l, stand)
		truth = append(truth, v)
		l.Scores = append(l.Scores, v.score())
		stand, l.Won = v.after, v.won
	}
	return l, truth
}

// bedsOf returns the darts of visits.
func bedsOf(visits []thrown) [][]api.Bed {
	var l [][]api.Bed
	for _, v := range visits {
		l = append(l, v.beds)
	}
	return l
}

// randomLeg returns a small leg, of which most are possible.
func randomLeg(r *rand.Rand) api.MeanLeg {
	l, _ := randomTruth(r, randomLaws(r, 1+some(r, 5, 12, 25, 60, 200)), some(r, 3, 6, 12))
	if len(l.Scores) == 0 || r.IntN(4) > 0 {
		return l
	}
	i := r.IntN(len(l.Scores))
	switch r.IntN(5) {
	case 0:
		l.Won = !l.Won
	case 1:
		l.Scores[i] = r.IntN(2 * l.Count.Start)
	case 2:
		l.Scores[i] = some(r, 0, 1, math.MaxInt, l.Count.Start)
	case 3:
		l.Scores = append(l.Scores, some(r, l.Scores...))
	case 4:
		l.Scores = l.Scores[:i+1]
	}
	return l
}
