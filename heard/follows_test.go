package heard_test

import (
	"math/rand/v2"
	"slices"
	"testing"

	"oche/api"
	"oche/heard"
)

// The chapter's examples.
func TestExamples(t *testing.T) {
	l := example()
	scores, wins, e := heard.Visits(l, in(2))
	if !slices.Equal(scores, []int{0}) || !wins || e != api.OK {
		t.Error(scores, wins, e)
	}
	for score, want := range map[int]int{0: 13, 2: 3} {
		if n, darts, e := heard.Ways(l, in(2), score); n != want || darts != to(1, 3) || e != api.OK {
			t.Error(score, n, darts, e)
		}
	}
	want := told{spans(to(0, 44), to(6, 44), to(0, 44), to(6, 44)), spans(to(6, 50), to(6, 44), to(2, 50), to(0, 0)), spans(to(1, 3), to(3, 3), to(1, 3), to(3, 3)), api.OK}
	if got := truth(l, nil); !got.same(want) {
		t.Error(got)
	}
	reports := said(say(1, -1, 44), say(3, 6, -1), say(0, 40, -1))
	blame, e := heard.Blame(l, reports)
	drop, f := heard.Drop(l, reports)
	if !sameSets(blame, sets(set(0, 1))) || !sameSets(drop, sets(set(0), set(1))) || e != api.OK || f != api.OK {
		t.Error(blame, drop, e, f)
	}
	if got := truth(l, reports); !got.same(told{e: api.ErrState}) {
		t.Error(got)
	}
	got := truth(l, said(reports[0], reports[2]))
	if !slices.Equal(got.scores, spans(to(40, 40), to(6, 6), to(0, 6), to(44, 44))) || got.lefts[2] != to(4, 10) || got.e != api.OK {
		t.Error(got)
	}
}

// contains reports whether a span contains a number.
func contains(s api.Span, n int) bool { return s.Low <= n && n <= s.High }

// within reports whether no span of a list is wider than the one of another list.
func within(a, b []api.Span) bool {
	for i, s := range a {
		if s.Low < b[i].Low || s.High > b[i].High {
			return false
		}
	}
	return len(a) == len(b)
}

// randomTruth returns a leg of a size as it is on boards, what truly was thrown in it, and reports that are right.
func randomTruth(r *rand.Rand) (api.HeardLeg, []thrown, []api.HeardReport) {
	l := randomLaws(r, some(r, 30, 101))
	if r.IntN(4) == 0 {
		l.Beds = some(r, allBeds(3)[r.IntN(40):], list(101, 105, 119, 120, 125, 205, 210, 220, 225, 319, 320))
	}
	l.Players = 1 + r.IntN(4)
	var truth []thrown
	for turns := r.IntN(25); len(truth) < turns && !l.Won; {
		stand := first(l.Count)
		if len(truth) >= l.Players {
			stand = truth[len(truth)-l.Players].after
		}
		v := randomVisit(r, l, stand)
		truth = append(truth, v)
		l.Won = v.won()
	}
	l.Turns = len(truth)
	var reports []api.HeardReport
	for turn, v := range truth {
		if r.IntN(3) == 0 {
			reports = append(reports, some(r, say(turn, v.score(), -1), say(turn, -1, v.after.Left), say(turn, v.score(), v.after.Left), say(turn, -1, -1)))
		}
	}
	return l, truth, reports
}

// randomVisit returns a visit from a stand.
func randomVisit(r *rand.Rand, l api.HeardLeg, from api.HeardStand) thrown {
	now := from
	for darts := range 3 {
		bed := some(r, append(list(0), l.Beds...)...)
		if !now.In && !opens(bed, l.Count.In) || bed == 0 {
			continue
		}
		rest := now.Left - int(bed/100)*int(bed%100)
		if rest == 0 && opens(bed, l.Count.Out) {
			return thrown{from, in(0), darts + 1}
		}
		if rest < 1 || rest == 1 && l.Count.Out != free {
			return thrown{from, from, darts + 1}
		}
		now = in(rest)
	}
	return thrown{from, now, 3}
}

// P5.8: what truly was thrown lies in the spans, and can be heard in Visits and Ways.
func TestInEveryTruth(t *testing.T) {
	r := rand.New(rand.NewPCG(4, 5))
	won := 0
	for range 400 {
		l, visits, reports := randomTruth(r)
		got := truth(l, reports)
		if got.e != api.OK || len(got.scores) != l.Turns || len(got.lefts) != l.Turns || len(got.darts) != l.Turns {
			t.Fatal(l, visits, reports, got)
		}
		for turn, v := range visits {
			if !contains(got.scores[turn], v.score()) || !contains(got.lefts[turn], v.after.Left) || !contains(got.darts[turn], v.darts) {
				t.Fatal(l, visits, reports, got)
			}
			scores, wins, _ := heard.Visits(l, v.before)
			ways, darts, e := heard.Ways(l, v.before, v.score())
			if v.won() && !wins || !v.won() && !slices.Contains(scores, v.score()) || ways == 0 || !contains(darts, v.darts) || e != api.OK {
				t.Fatal(l, v, scores, wins, ways, darts, e)
			}
		}
		if l.Won {
			won++
		}
	}
	if won < 50 {
		t.Error("too few legs are won:", won)
	}
}

// P5.8: each end of a span is reached in some truth; for the numbers of darts, see TestTruthByText.
func TestEndsAreReached(t *testing.T) {
	r := rand.New(rand.NewPCG(5, 5))
	for range 100 {
		l, _, reports := randomTruth(r)
		if l.Turns == 0 {
			continue
		}
		got, turn := truth(l, reports), r.IntN(l.Turns)
		for _, end := range []int{got.scores[turn].Low, got.scores[turn].High} {
			if more := truth(l, append(slices.Clip(reports), say(turn, end, -1))); more.e != api.OK || more.scores[turn] != to(end, end) {
				t.Fatal(l, reports, turn, end, more)
			}
		}
		for _, end := range []int{got.lefts[turn].Low, got.lefts[turn].High} {
			if more := truth(l, append(slices.Clip(reports), say(turn, -1, end))); more.e != api.OK || more.lefts[turn] != to(end, end) {
				t.Fatal(l, reports, turn, end, more)
			}
		}
		for _, beyond := range []api.HeardReport{say(turn, got.scores[turn].High+1, -1), say(turn, got.scores[turn].Low-1, -1), say(turn, -1, got.lefts[turn].High+1), say(turn, -1, got.lefts[turn].Low-1)} {
			if min(beyond.Score, beyond.Left) < -1 || max(beyond.Score, beyond.Left) == -1 {
				continue
			}
			if more := truth(l, append(slices.Clip(reports), beyond)); more.e != api.ErrState {
				t.Fatal(l, reports, beyond, more)
			}
		}
	}
}

// P5.9: a report told twice, and reports in another order, change no span; with one more no span is wider.
func TestSaidTwice(t *testing.T) {
	r := rand.New(rand.NewPCG(6, 5))
	narrower := 0
	for range 200 {
		l, visits, reports := randomTruth(r)
		got := truth(l, reports)
		other := slices.Clone(reports)
		for _, report := range reports {
			if r.IntN(2) == 0 {
				other = append(other, report)
			}
		}
		r.Shuffle(len(other), func(i, j int) { other[i], other[j] = other[j], other[i] })
		if again := truth(l, other); !again.same(got) {
			t.Fatal(l, reports, other, got, again)
		}
		if l.Turns == 0 {
			continue
		}
		turn := r.IntN(l.Turns)
		more := truth(l, append(other, say(turn, visits[turn].score(), -1)))
		if more.e != api.OK || !within(more.scores, got.scores) || !within(more.lefts, got.lefts) || !within(more.darts, got.darts) {
			t.Fatal(l, reports, turn, got, more)
		}
		if !more.same(got) {
			narrower++
		}
	}
	if narrower < 50 {
		t.Error("too few reports tell anything:", narrower)
	}
}

// misheard returns a leg and at most ten reports, of which some are wrong.
func misheard(r *rand.Rand) (api.HeardLeg, []api.HeardReport) {
	for {
		l, visits, reports := randomTruth(r)
		reports = slices.Clip(reports[:min(len(reports), 7)])
		if l.Turns == 0 || len(l.Beds) > 20 {
			continue
		}
		for range 1 + r.IntN(3) {
			turn := r.IntN(l.Turns)
			v := visits[turn]
			reports = append(reports, some(r, say(turn, visits[r.IntN(l.Turns)].score(), -1), say(turn, -1, visits[r.IntN(l.Turns)].after.Left), say(turn, v.score()+1, -1), say(turn, -1, v.after.Left+r.IntN(5))))
		}
		r.Shuffle(len(reports), func(i, j int) { reports[i], reports[j] = reports[j], reports[i] })
		if !slices.ContainsFunc(reports, func(report api.HeardReport) bool { return report.Score > 240 }) {
			return l, reports
		}
	}
}

// have reports whether there is a truth in which all reports are right.
func have(l api.HeardLeg, reports []api.HeardReport) bool {
	_, _, _, e := heard.Truth(l, reports)
	return e == api.OK
}

// P5.10 and P5.11: sets that Blame and Drop return, and smaller ones.
func TestTheLeastSets(t *testing.T) {
	r := rand.New(rand.NewPCG(7, 5))
	clashes := 0
	for range 250 {
		l, reports := misheard(r)
		blame, e := heard.Blame(l, reports)
		drop, f := heard.Drop(l, reports)
		if e != api.OK || f != api.OK || (len(blame) == 0) != have(l, reports) || len(drop) == 0 {
			t.Fatal(l, reports, blame, drop, e, f)
		}
		for _, b := range blame {
			if len(b) > 1 {
				clashes++
			}
			// All but one include all smaller ones.
			for i := range b {
				if !have(l, those(reports, slices.Delete(slices.Clone(b), i, i+1), true)) {
					t.Fatal(l, reports, b)
				}
			}
			strange := func(i int) bool { return reports[i].Turn%l.Players != reports[b[0]].Turn%l.Players }
			apart := func(d []int) bool {
				return !slices.ContainsFunc(d, func(i int) bool { return slices.Contains(b, i) })
			}
			if have(l, those(reports, b, true)) || slices.ContainsFunc(b, strange) || slices.ContainsFunc(drop, apart) {
				t.Fatal(l, reports, b, drop)
			}
		}
		if len(blame) > 0 {
			for _, s := range setsOf(len(reports), len(blame[0])-1) {
				if !have(l, those(reports, s, true)) {
					t.Fatal(l, reports, blame, s)
				}
			}
		}
		for _, d := range drop {
			if !have(l, those(reports, d, false)) {
				t.Fatal(l, reports, d)
			}
		}
		if len(drop[0]) > 0 {
			for _, s := range setsOf(len(reports), len(drop[0])-1) {
				if have(l, those(reports, s, false)) {
					t.Fatal(l, reports, drop, s)
				}
			}
		}
	}
	if clashes < 50 {
		t.Error("too few sets of more than one report:", clashes)
	}
}

// P1: each function returns, whatever it is given, and with an error nothing else.
func TestAnyArguments(t *testing.T) {
	r := rand.New(rand.NewPCG(8, 5))
	number := func() int { return some(r, numbers()...) }
	valid := 0
	for range 20000 {
		l := example()
		if r.IntN(3) > 0 {
			l = played(randomLaws(r, 60), 1+r.IntN(4), r.IntN(8), false)
		}
		switch r.IntN(12) {
		case 0:
			l.Count.Start = number()
		case 1:
			l.Count.In, l.Count.Out = api.Gate(number()), api.Gate(number()%4)
		case 2:
			l.Beds = append(l.Beds, api.Bed(number()))
		case 3:
			l.Beds = make([]api.Bed, r.IntN(90))
		case 4:
			l.Players = number()
		case 5:
			l.Turns = min(number(), 9)
		case 6:
			l.Won = !l.Won
		}
		var reports []api.HeardReport
		for range r.IntN(some(r, 4, 13)) {
			reports = append(reports, say(r.IntN(8), some(r, number(), r.IntN(20)-1, -1), some(r, number(), r.IntN(50)-1, -1)))
		}
		s := some(r, in(number()), notIn(number()), notIn(l.Count.Start), in(r.IntN(50)))
		scores, wins, e := heard.Visits(l, s)
		if e != api.OK && (scores != nil || wins) || e == api.OK && len(scores) == 0 && !wins {
			t.Fatal(l, s, scores, wins, e)
		}
		if ways, darts, e := heard.Ways(l, s, number()); (e == api.OK) != (ways > 0) || e != api.OK && darts != to(0, 0) {
			t.Fatal(l, s, ways, darts, e)
		}
		got := truth(l, reports)
		if got.e != api.OK && !got.same(told{e: got.e}) || got.e == api.OK && len(got.darts) != l.Turns {
			t.Fatal(l, reports, got)
		}
		blame, f := heard.Blame(l, reports)
		drop, g := heard.Drop(l, reports)
		if f != api.OK && blame != nil || g != api.OK && drop != nil || g == api.OK && len(drop) == 0 {
			t.Fatal(l, reports, blame, drop, f, g)
		}
		if got.e == api.OK {
			valid++
		}
	}
	if valid < 1000 {
		t.Error("too few arguments are valid:", valid)
	}
}
