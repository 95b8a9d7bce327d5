package heard_test

import (
	"math"
	"math/rand/v2"
	"slices"

	"oche/api"
)

// The gates by shorter names.
const (
	free   = api.GateAny
	double = api.GateDouble
	master = api.GateMaster
)

// to returns a span.
func to(low, high int) api.Span { return api.Span{Low: low, High: high} }

// spans returns its arguments.
func spans(l ...api.Span) []api.Span { return l }

// list returns its arguments.
func list(beds ...api.Bed) []api.Bed { return beds }

// in and notIn return stands.
func in(left int) api.HeardStand { return api.HeardStand{Left: left, In: true} }

func notIn(left int) api.HeardStand { return api.HeardStand{Left: left} }

// say returns a report.
func say(turn, score, left int) api.HeardReport {
	return api.HeardReport{Turn: turn, Score: score, Left: left}
}

// said returns its arguments.
func said(reports ...api.HeardReport) []api.HeardReport { return reports }

// laws returns laws of one player, of which no turn was thrown.
func laws(start int, in, out api.Gate, beds ...api.Bed) api.HeardLeg {
	return api.HeardLeg{Count: api.Count{Start: start, In: in, Out: out}, Beds: beds, Players: 1}
}

// played returns a leg with turns of players.
func played(l api.HeardLeg, players, turns int, won bool) api.HeardLeg {
	l.Players, l.Turns, l.Won = players, turns, won
	return l
}

// example returns the leg of the chapter's examples.
func example() api.HeardLeg {
	return played(laws(50, free, double, 101, 120, 201, 220, 320), 2, 4, true)
}

// allBeds returns all beds but the miss up to a factor, ascending.
func allBeds(factors int) []api.Bed {
	beds := list(api.Bull, api.Eye)
	for factor := range factors {
		for number := range 20 {
			beds = append(beds, api.Bed(100*(factor+1)+number+1))
		}
	}
	slices.Sort(beds)
	return beds
}

// usual returns the laws of a usual leg.
func usual(start int) api.HeardLeg { return laws(start, free, double, allBeds(3)...) }

// some returns one of its arguments.
func some[T any](r *rand.Rand, l ...T) T { return l[r.IntN(len(l))] }

// numbers are numbers that no list or limit allows, or only just.
func numbers() []int {
	return []int{math.MinInt, math.MinInt + 1, -240, -101, -2, -1, 0, 1, 2, 3, 4, 5, 10, 11, 59, 60, 61, 82, 100, 101, 225, 240, 241, 1000, 1001, 1002, math.MaxInt - 1, math.MaxInt}
}

// sameSets compares lists of sets.
func sameSets(a, b [][]int) bool { return slices.EqualFunc(a, b, slices.Equal[[]int]) }

// thrown is a visit by the stands before and after it, and how many darts it has.
type thrown struct {
	before, after api.HeardStand
	darts         int
}

// score returns the score of a visit, by the text of the chapter.
func (t thrown) score() int { return t.before.Left - t.after.Left }

// won reports whether a visit wins the leg.
func (t thrown) won() bool { return t.after.Left == 0 }

// opens reports whether a bed opens a gate, by the text of DOC.md.
func opens(bed api.Bed, gate api.Gate) bool {
	switch factor := int(bed / 100); gate {
	case double:
		return factor == 2
	case master:
		return factor >= 2
	default:
		return bed != api.Miss
	}
}

// visitsByText returns all lists of darts that are a visit from a stand, as what they come to, by the text of C2 and C3.
func visitsByText(l api.HeardLeg, from api.HeardStand) []thrown {
	var visits []thrown
	var throw func(now api.HeardStand, darts int)
	throw = func(now api.HeardStand, darts int) {
		if darts == 3 {
			visits = append(visits, thrown{from, now, 3})
			return
		}
		throw(now, darts+1) // a miss
		for _, bed := range l.Beds {
			if !now.In && !opens(bed, l.Count.In) {
				throw(now, darts+1)
				continue
			}
			rest := now.Left - int(bed/100)*int(bed%100)
			switch {
			case rest == 0 && opens(bed, l.Count.Out):
				visits = append(visits, thrown{from, in(0), darts + 1})
			case rest >= 2 || rest == 1 && l.Count.Out == free:
				throw(in(rest), darts+1)
			default:
				visits = append(visits, thrown{from, from, darts + 1})
			}
		}
	}
	throw(from, 0)
	return visits
}

// first returns the stand before the first visit, by the text of C1.
func first(c api.Count) api.HeardStand { return api.HeardStand{Left: c.Start, In: c.In == free} }

// truthsByText returns all truths of a leg, by the text of the chapter: of lists of darts that come to the same, one. It is nil and false if there are too many.
func truthsByText(l api.HeardLeg, most int) ([][]thrown, bool) {
	known := map[api.HeardStand][]thrown{}
	truths := [][]thrown{nil}
	for turn := range l.Turns {
		var longer [][]thrown
		for _, truth := range truths {
			stand := first(l.Count)
			if turn >= l.Players {
				stand = truth[turn-l.Players].after
			}
			if known[stand] == nil {
				seen := map[thrown]bool{}
				for _, v := range visitsByText(l, stand) {
					if !seen[v] {
						seen[v] = true
						known[stand] = append(known[stand], v)
					}
				}
			}
			for _, v := range known[stand] {
				if v.won() == (l.Won && turn == l.Turns-1) {
					longer = append(longer, append(slices.Clip(truth), v))
				}
			}
			if len(longer) > most {
				return nil, false
			}
		}
		truths = longer
	}
	return truths, true
}

// isRight reports whether a report is right in a truth.
func isRight(r api.HeardReport, truth []thrown) bool {
	v := truth[r.Turn]
	return (r.Score == -1 || v.score() == r.Score) && (r.Left == -1 || v.after.Left == r.Left)
}

// allRight returns the truths in which all reports are right.
func allRight(truths [][]thrown, reports []api.HeardReport) [][]thrown {
	return slices.DeleteFunc(slices.Clone(truths), func(truth []thrown) bool {
		return slices.ContainsFunc(reports, func(r api.HeardReport) bool { return !isRight(r, truth) })
	})
}

// least returns the least spans of a number of each turn.
func least(truths [][]thrown, turns int, number func(thrown) int) []api.Span {
	var l []api.Span
	for turn := range turns {
		var all []int
		for _, truth := range truths {
			all = append(all, number(truth[turn]))
		}
		l = append(l, to(slices.Min(all), slices.Max(all)))
	}
	return l
}

// spansByText returns what Truth should return for valid reports.
func spansByText(l api.HeardLeg, truths [][]thrown, reports []api.HeardReport) (scores, lefts, darts []api.Span, e api.Errno) {
	right := allRight(truths, reports)
	if len(right) == 0 {
		return nil, nil, nil, api.ErrState
	}
	left := func(v thrown) int { return v.after.Left }
	count := func(v thrown) int { return v.darts }
	return least(right, l.Turns, thrown.score), least(right, l.Turns, left), least(right, l.Turns, count), api.OK
}

// setsOf returns all sets of so many of n numbers, in ascending order.
func setsOf(n, size int) [][]int {
	if size == 0 {
		return [][]int{nil}
	}
	var sets [][]int
	for _, set := range setsOf(n, size-1) {
		next := 0
		if len(set) > 0 {
			next = set[len(set)-1] + 1
		}
		for ; next < n; next++ {
			sets = append(sets, append(slices.Clip(set), next))
		}
	}
	return sets
}

// those returns the reports with some numbers, or without them.
func those(reports []api.HeardReport, set []int, with bool) []api.HeardReport {
	var l []api.HeardReport
	for i, r := range reports {
		if slices.Contains(set, i) == with {
			l = append(l, r)
		}
	}
	return l
}

// smallestByText returns the sets of the least size, of n numbers, that are wanted.
func smallestByText(n int, wanted func(set []int) bool) [][]int {
	for size := range n + 1 {
		sets := slices.DeleteFunc(setsOf(n, size), func(set []int) bool { return !wanted(set) })
		if len(sets) > 0 {
			return sets
		}
	}
	return nil
}

// blameByText returns what Blame should return for valid reports.
func blameByText(truths [][]thrown, reports []api.HeardReport) [][]int {
	return smallestByText(len(reports), func(set []int) bool {
		return len(allRight(truths, those(reports, set, true))) == 0
	})
}

// dropByText returns what Drop should return for valid reports.
func dropByText(truths [][]thrown, reports []api.HeardReport) ([][]int, api.Errno) {
	if len(truths) == 0 {
		return nil, api.ErrState
	}
	return smallestByText(len(reports), func(set []int) bool {
		return len(allRight(truths, those(reports, set, false))) > 0
	}), api.OK
}

// randomBeds returns a few beds, of which some are low.
func randomBeds(r *rand.Rand) []api.Bed {
	var beds []api.Bed
	for range 1 + r.IntN(4) {
		beds = append(beds, some(r, some(r, allBeds(4)...), some(r, list(101, 102, 103, 104, 201, 202, 203, 301, 302, 401)...), 101, 201))
	}
	slices.Sort(beds)
	return slices.Compact(beds)
}

// randomLaws returns laws with a start up to a limit.
func randomLaws(r *rand.Rand, most int) api.HeardLeg {
	return laws(2+r.IntN(most-1), some(r, free, free, double, master), some(r, free, double, master), randomBeds(r)...)
}

// randomLeg returns a small leg with all of its truths.
func randomLeg(r *rand.Rand) (api.HeardLeg, [][]thrown) {
	for {
		l := played(randomLaws(r, 1+some(r, 5, 12, 25, 60)), 1+r.IntN(4), r.IntN(7), r.IntN(2) == 0)
		l.Won = l.Won && l.Turns > 0
		if truths, ok := truthsByText(l, 3000); ok && (len(truths) > 0 || r.IntN(10) == 0) {
			return l, truths
		}
	}
}

// randomReports returns reports, of which most are right in one truth, if there is one and any turn.
func randomReports(r *rand.Rand, l api.HeardLeg, truths [][]thrown, most int) []api.HeardReport {
	if l.Turns == 0 {
		return nil
	}
	var reports []api.HeardReport
	one := r.IntN(len(truths) + 1)
	for range r.IntN(most + 1) {
		turn := r.IntN(l.Turns)
		told := say(turn, r.IntN(l.Count.Start+1)%241, r.IntN(l.Count.Start+1))
		if len(truths) > 0 && r.IntN(5) > 0 {
			v := truths[(one+r.IntN(1+r.IntN(2)*r.IntN(len(truths))))%len(truths)][turn]
			told = say(turn, v.score(), v.after.Left)
		}
		switch r.IntN(9) {
		case 0, 1, 2:
			told.Score = -1
		case 3, 4, 5:
			told.Left = -1
		case 6:
			told.Score, told.Left = -1, -1
		}
		reports = append(reports, told)
	}
	return reports
}
