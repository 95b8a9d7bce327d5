package heard_test

import (
	"math"
	"math/rand/v2"
	"slices"
	"testing"

	"oche/api"
	"oche/heard"
)

// told is what Truth returns.
type told struct {
	scores, lefts, darts []api.Span
	e                    api.Errno
}

// truth returns what Truth returns.
func truth(l api.HeardLeg, reports []api.HeardReport) told {
	scores, lefts, darts, e := heard.Truth(l, reports)
	return told{scores, lefts, darts, e}
}

// same reports whether the same is returned.
func (t told) same(other told) bool {
	return slices.Equal(t.scores, other.scores) && slices.Equal(t.lefts, other.lefts) && slices.Equal(t.darts, other.darts) && t.e == other.e
}

// P5.5: what visits can have been.
func TestTruth(t *testing.T) {
	eyes := laws(50, free, double, 225)
	once, twice, never := to(0, 0), to(50, 50), to(3, 3)
	for i, c := range []struct {
		l                    api.HeardLeg
		reports              []api.HeardReport
		scores, lefts, darts []api.Span
	}{
		{example(), nil, spans(to(0, 44), to(6, 44), to(0, 44), to(6, 44)), spans(to(6, 50), to(6, 44), to(2, 50), to(0, 0)), spans(to(1, 3), to(3, 3), to(1, 3), to(3, 3))},
		{played(example(), 2, 0, false), nil, nil, nil, nil}, {played(example(), 4, 0, false), said(), nil, nil, nil},
		// The last visit wins if Won is true, and no other one does.
		{played(eyes, 1, 1, true), nil, spans(twice), spans(once), spans(to(1, 3))}, {played(eyes, 1, 1, false), nil, spans(once), spans(twice), spans(never)}, {played(eyes, 1, 2, true), nil, spans(once, twice), spans(twice, once), spans(never, to(1, 3))}, {played(eyes, 2, 2, true), nil, spans(once, twice), spans(twice, once), spans(never, to(1, 3))}, {played(eyes, 4, 2, true), said(say(1, 50, 0), say(0, 0, 50)), spans(once, twice), spans(twice, once), spans(never, to(1, 3))},
		// Two darts win at least, and one can be bust.
		{played(laws(60, free, double, 120, 220), 1, 1, true), nil, spans(to(60, 60)), spans(to(0, 0)), spans(to(2, 3))}, {played(laws(3, free, double, 120), 1, 1, false), nil, spans(to(0, 0)), spans(to(3, 3)), spans(to(1, 3))}, {played(laws(1001, free, free, 420), 1, 5, true), nil, nil, nil, nil},
		// With GateAny 1 can be left.
		{played(laws(2, free, free, 101), 1, 2, true), said(say(0, 1, -1)), spans(to(1, 1), to(1, 1)), spans(to(1, 1), to(0, 0)), spans(to(3, 3), to(1, 3))},
		// A player comes in with the first score.
		{played(laws(10, double, master, 103, 205, 302), 1, 2, false), nil, spans(to(0, 0), to(0, 0)), spans(to(10, 10), to(10, 10)), spans(to(3, 3), to(3, 3))}, {played(laws(20, double, double, 103, 205), 1, 2, false), said(say(1, 3, -1)), spans(to(10, 13), to(3, 3)), spans(to(7, 10), to(4, 7)), spans(to(3, 3), to(3, 3))}, {played(laws(6, double, double, 101, 202), 1, 2, false), said(say(1, 0, 6)), spans(to(0, 0), to(0, 0)), spans(to(6, 6), to(6, 6)), spans(to(2, 3), to(2, 3))},
		// A report that says nothing, one that is said again, and reports that each say a part.
		{played(example(), 1, 1, false), said(say(0, -1, -1)), spans(to(0, 44)), spans(to(6, 50)), spans(to(1, 3))}, {played(example(), 1, 1, false), said(say(0, 21, -1), say(0, 21, -1), say(0, -1, 29), say(0, 21, 29)), spans(to(21, 21)), spans(to(29, 29)), spans(to(3, 3))},
		// What is said of a turn tells of those before and after it, but of no other player.
		{played(example(), 2, 4, false), said(say(2, -1, 6)), spans(to(0, 44), to(0, 44), to(0, 44), to(0, 44)), spans(to(6, 50), to(6, 50), to(6, 6), to(2, 50)), spans(to(1, 3), to(1, 3), to(1, 3), to(1, 3))},
	} {
		want := told{c.scores, c.lefts, c.darts, api.OK}
		if c.scores == nil && c.l.Turns > 0 {
			want.e = api.ErrState
		}
		if got := truth(c.l, c.reports); !got.same(want) {
			t.Error(i, got)
		}
	}
}

// P5.5: the perfect leg, in which no dart is free.
func TestPerfectLeg(t *testing.T) {
	l := played(usual(501), 1, 3, true)
	first, last := to(151, 180), to(141, 170)
	want := told{spans(first, first, last), spans(to(321, 350), to(141, 170), to(0, 0)), spans(to(3, 3), to(3, 3), to(3, 3)), api.OK}
	if got := truth(l, nil); !got.same(want) {
		t.Error(got)
	}
	want = told{spans(to(180, 180), to(151, 180), to(141, 170)), spans(to(321, 321), to(141, 170), to(0, 0)), spans(to(3, 3), to(3, 3), to(3, 3)), api.OK}
	if got := truth(l, said(say(0, 180, -1))); !got.same(want) {
		t.Error(got)
	}
	// 142 and 158 can be ended, but two visits do not leave them; 168 is left by some, but cannot be ended.
	for score, want := range map[int]bool{141: true, 142: false, 144: true, 158: false, 167: true, 168: false, 170: true, 171: false} {
		if got := truth(l, said(say(2, score, -1))); (got.e == api.OK) != want || !want && got.e != api.ErrState {
			t.Error(score, got)
		}
	}
	if got := truth(played(l, 1, 2, true), nil); got.e != api.ErrState {
		t.Error(got)
	}
	// With the score 240 a leg of 1001 has five visits at least.
	for turns := 1; turns <= 6; turns++ {
		if got := truth(played(laws(1001, free, free, allBeds(4)...), 1, turns, true), nil); (got.e == api.OK) != (turns >= 5) {
			t.Error(turns, got)
		}
	}
}

// P5.5: reports that cannot be right.
func TestNoTruth(t *testing.T) {
	for i, c := range []struct {
		l       api.HeardLeg
		reports []api.HeardReport
	}{
		{example(), said(say(1, -1, 44), say(3, 6, -1))}, {example(), said(say(0, 40, 11))}, {example(), said(say(0, 40, -1), say(0, 41, -1))}, {example(), said(say(0, -1, 10), say(0, -1, 9))},
		// No visit but the last one wins, and the last one does.
		{example(), said(say(2, -1, 0))}, {example(), said(say(3, -1, 6))}, {example(), said(say(3, 0, -1))}, {played(example(), 1, 1, false), said(say(0, -1, 0))}, {played(laws(50, free, double, 225), 1, 1, false), said(say(0, 50, -1))},
		// What nobody can score, or have left.
		{example(), said(say(0, 240, -1))}, {example(), said(say(0, -1, 1001))}, {example(), said(say(0, -1, 1))}, {example(), said(say(2, -1, 49), say(0, -1, 6))}, {played(example(), 1, 1, true), nil}, {played(laws(5, double, free, 101), 1, 9, true), nil}, {played(laws(5, double, free, 101), 1, 9, false), said(say(8, 1, -1))},
	} {
		if got := truth(c.l, c.reports); !got.same(told{e: api.ErrState}) {
			t.Error(i, got)
		}
	}
}

// wrongReports returns reports that are not valid in a leg with four turns.
func wrongReports() []api.HeardReport {
	var wrong []api.HeardReport
	for _, n := range numbers() {
		if n < 0 || n > 3 {
			wrong = append(wrong, say(n, -1, -1))
		}
		if n < -1 || n > 240 {
			wrong = append(wrong, say(0, n, -1))
		}
		if n < -1 || n > 1001 {
			wrong = append(wrong, say(3, -1, n))
		}
	}
	return append(wrong, say(-1, -2, -2), say(4, 241, 1002))
}

// P5.5, P5.6 and P5.7: the errors of reports, in their order.
func TestWrongReports(t *testing.T) {
	check := func(l api.HeardLeg, reports []api.HeardReport, want, few api.Errno) {
		t.Helper()
		blame, e := heard.Blame(l, reports)
		drop, f := heard.Drop(l, reports)
		if got := truth(l, reports); !got.same(told{e: want}) || blame != nil || drop != nil || e != few || f != few {
			t.Error(l, len(reports), got, blame, drop, e, f)
		}
	}
	for _, wrong := range wrongReports() {
		check(example(), said(wrong), api.ErrArg, api.ErrArg)
		check(example(), said(say(0, 40, -1), say(0, 41, -1), wrong), api.ErrArg, api.ErrArg)
		check(example(), append(make([]api.HeardReport, 9), wrong), api.ErrArg, api.ErrArg)
		check(example(), append(make([]api.HeardReport, 10), wrong), api.ErrArg, api.ErrLong)
		check(example(), append(make([]api.HeardReport, 99), wrong), api.ErrArg, api.ErrLong)
		check(example(), append(make([]api.HeardReport, 100), wrong), api.ErrLong, api.ErrLong)
		// It is no matter that no truth is there anyway.
		check(played(example(), 2, 4, true), append(said(say(2, -1, 0)), wrong), api.ErrArg, api.ErrArg)
	}
	check(example(), make([]api.HeardReport, 101), api.ErrLong, api.ErrLong)
	check(played(example(), 2, 0, false), said(say(0, -1, -1)), api.ErrArg, api.ErrArg)
	check(played(example(), 2, 0, false), said(say(-1, -1, -1)), api.ErrArg, api.ErrArg)
	check(played(example(), 2, 0, false), said(say(math.MinInt, -1, -1)), api.ErrArg, api.ErrArg)
	check(played(example(), 1, 1, true), said(say(1, -1, -1)), api.ErrArg, api.ErrArg)
	if got := truth(example(), slices.Repeat(said(say(0, 40, 10)), 100)); got.e != api.OK || got.scores[0] != to(40, 40) {
		t.Error(got)
	}
}

// P5.5: what is returned is what is found by going through all truths.
func TestTruthByText(t *testing.T) {
	r := rand.New(rand.NewPCG(2, 5))
	none, some, others := 0, 0, 0
	for range 3000 {
		l, truths := randomLeg(r)
		reports := randomReports(r, l, truths, 6)
		var want told
		want.scores, want.lefts, want.darts, want.e = spansByText(l, truths, reports)
		if got := truth(l, reports); !got.same(want) {
			t.Fatal(l, reports, got, want)
		}
		wide := func(s api.Span) bool { return s.Low < s.High }
		switch {
		case want.e != api.OK:
			none++
		case slices.ContainsFunc(want.scores, wide):
			some++
		case slices.ContainsFunc(want.darts, wide):
			others++
		}
	}
	if none < 200 || some < 500 || others < 100 {
		t.Error("too few legs have no truth, scores that are not known, or numbers of darts alone that are not:", none, some, others)
	}
}

// P5.5: as many turns, players and beds as there can be, in the longest leg.
func TestMostOfAll(t *testing.T) {
	got := truth(played(laws(1001, double, double, allBeds(4)...), 4, 60, true), nil)
	if got.e != api.OK || got.scores[59] != to(2, 80+80+50) || got.lefts[59] != to(0, 0) || got.darts[59] != to(1, 3) {
		t.Error(got)
	}
	for turn := range 59 {
		visit, last := turn/4, 14
		scores, lefts := to(0, 240), to(max(2, 1001-210-visit*240), 1001)
		if visit == 0 {
			// Who is not in needs a double first.
			scores.High = 50 + 80 + 80
		}
		if turn%4 == 3 {
			lefts.High = min(1001, 210+(last-1-visit)*240)
		}
		if got.scores[turn] != scores || got.lefts[turn] != lefts {
			t.Error(turn, got.scores[turn], got.lefts[turn])
		}
	}
}
