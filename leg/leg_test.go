package leg_test

import (
	"math"
	"math/rand/v2"
	"slices"
	"testing"

	"oche/api"
	"oche/leg"
)

// wrongRules returns rules that are not valid, by what is wrong.
func wrongRules() map[string]api.LegRules {
	c := count(101, free, double)
	return map[string]api.LegRules{
		"nothing": {}, "no players": {Counts: []api.Count{}}, "9 players": same(9, c), "2001 players": same(2001, c),
		"first -1": from(two(), -1), "first 2": from(two(), 2), "first 8": from(same(8, c), 8), "least first": from(two(), math.MinInt), "most first": from(two(), math.MaxInt),
		"-1 rounds": limited(two(), -1), "201 rounds": limited(two(), 201), "least rounds": limited(two(), math.MinInt), "most rounds": limited(two(), math.MaxInt),
		"start 1": same(1, count(1, free, free)), "start 0": same(1, count(0, free, free)), "start -501": same(2, count(-501, free, free)), "start 1002": same(3, count(1002, free, double)),
		"in 3": same(1, count(101, 3, free)), "in -1": same(1, count(101, -1, free)), "out 3": same(1, count(101, free, 3)), "out -1": same(1, count(101, free, -1)),
		"the last one": {Counts: []api.Count{c, c, count(101, free, 4)}}, "the first one": {Counts: []api.Count{count(1, free, free), c, c}},
	}
}

// P3.1: rules that are valid, and rules that are not; Play and Judge want valid ones before anything else.
func TestCheck(t *testing.T) {
	for i, r := range []api.LegRules{
		two(), same(1, count(2, free, free)), same(8, count(1001, double, master)), from(same(8, count(501, master, free)), 7), limited(two(), 1), equal(limited(two(), 200)), from(same(1, count(301, double, double)), 0),
		{Counts: []api.Count{count(2, free, master), count(1001, double, free), count(170, master, double)}, First: 2},
	} {
		if e := leg.Check(r); e != api.OK {
			t.Error(i, e)
		}
	}
	for name, r := range wrongRules() {
		if e := leg.Check(r); e != api.ErrArg {
			t.Error(name, e)
		}
		for _, l := range [][]api.LegVisit{nil, {by(0, 101, 101, 101)}, {by(-1)}, make([]api.LegVisit, 2001)} {
			if s, at, e := leg.Play(r, l); e != api.ErrArg || at != 0 || !noLeg(s) {
				t.Error(name, s, at, e)
			}
			if s, faults, e := leg.Judge(r, l); e != api.ErrArg || len(faults) != 0 || !noLeg(s) {
				t.Error(name, s, faults, e)
			}
		}
	}
}

// P3.2: what visits come to.
func TestVisit(t *testing.T) {
	for i, c := range []struct {
		c    api.Count
		in   bool
		left int
		beds []api.Bed
		want api.LegThrow
	}{
		{count(501, free, double), true, 501, list(320, 320, 320), api.LegThrow{Left: 321, Score: 180, Darts: 3, In: true}},
		{count(501, free, double), true, 170, list(320, 320, 225), api.LegThrow{Score: 170, Darts: 3, In: true, Won: true}},
		{count(501, free, double), true, 32, list(116, api.Miss, 208), api.LegThrow{Score: 32, Darts: 3, In: true, Won: true}},
		{count(501, free, double), true, 2, list(201), api.LegThrow{Score: 2, Darts: 1, In: true, Won: true}},
		// Bust after two good darts, in each of the ways: below 0, at 1, and at 0 by a bed that does not end it.
		{count(501, free, double), true, 60, list(120, 120, 225), api.LegThrow{Left: 60, Darts: 3, In: true, Bust: true}},
		{count(501, free, double), true, 60, list(120, 120, 119), api.LegThrow{Left: 60, Darts: 3, In: true, Bust: true}},
		{count(501, free, double), true, 60, list(120, 120, 120), api.LegThrow{Left: 60, Darts: 3, In: true, Bust: true}},
		{count(501, free, master), true, 60, list(120, 119, 120), api.LegThrow{Left: 60, Darts: 3, In: true, Bust: true}},
		{count(501, free, master), true, 61, list(120, 120, 307), api.LegThrow{Score: 61, Darts: 3, In: true, Won: true}},
		// With GateAny, 1 is left, and ended by the single 1 alone.
		{count(501, free, free), true, 60, list(120, 120, 119), api.LegThrow{Left: 1, Score: 59, Darts: 3, In: true}},
		{count(501, free, free), true, 1, list(api.Miss, 101), api.LegThrow{Score: 1, Darts: 2, In: true, Won: true}},
		{count(501, free, free), true, 1, list(201), api.LegThrow{Left: 1, Darts: 1, In: true, Bust: true}},
		{count(501, free, free), true, 1, list(0, 0, 0), api.LegThrow{Left: 1, Darts: 3, In: true}},
		// Who is not in stays out by a bust visit, and by darts that do not open.
		{count(30, double, double), false, 30, list(101, 215), api.LegThrow{Score: 30, Darts: 2, In: true, Won: true}},
		{count(30, double, double), false, 30, list(201, 120, 120), api.LegThrow{Left: 30, Darts: 3, Bust: true}},
		{count(30, double, double), false, 30, list(301, 401, 101), api.LegThrow{Left: 30, Darts: 3}},
		{count(30, master, double), false, 30, list(101, 301, 101), api.LegThrow{Left: 26, Score: 4, Darts: 3, In: true}},
		{count(30, master, free), false, 30, list(101, 310), api.LegThrow{Score: 30, Darts: 2, In: true, Won: true}},
		{count(30, double, free), true, 30, list(101, 102, 103), api.LegThrow{Left: 24, Score: 6, Darts: 3, In: true}},
		// A player who is not in, though any bed would do: only a miss does not.
		{count(30, free, double), false, 30, list(0, 0, 0), api.LegThrow{Left: 30, Darts: 3}},
		{count(30, free, double), false, 30, list(0, 101, 0), api.LegThrow{Left: 29, Score: 1, Darts: 3, In: true}},
	} {
		if x, e := leg.Visit(c.c, c.in, c.left, c.beds); x != c.want || e != api.OK {
			t.Error(i, x, e)
		}
	}
}

// P3.2: the errors of Visit, in their order.
func TestVisitErrors(t *testing.T) {
	c, long := count(101, double, double), list(101, 101, 101, 999)
	for i, x := range []struct {
		c    api.Count
		in   bool
		left int
		beds []api.Bed
		want api.Errno
	}{
		{count(1, free, free), true, 1, list(101), api.ErrArg}, {count(1002, free, free), true, 5, list(105), api.ErrArg}, {count(101, 3, free), true, 101, long, api.ErrArg}, {count(101, free, -1), true, 0, nil, api.ErrArg}, {api.Count{}, false, 0, nil, api.ErrArg},
		{c, true, 1, list(999), api.ErrRange}, {c, true, 0, nil, api.ErrRange}, {c, true, 102, long, api.ErrRange}, {c, false, 100, nil, api.ErrRange}, {c, false, 102, nil, api.ErrRange}, {c, true, math.MinInt, nil, api.ErrRange}, {c, true, math.MaxInt, nil, api.ErrRange},
		{count(101, free, master), true, 1, list(101), api.ErrRange}, {count(101, double, free), true, 0, list(101), api.ErrRange}, {count(101, double, free), false, 1, list(101), api.ErrRange}, {count(101, free, free), false, 2, list(101), api.ErrRange},
		{c, true, 101, nil, api.ErrShort}, {c, true, 101, list(), api.ErrShort}, {c, true, 101, list(320), api.ErrShort}, {c, false, 101, list(0, 0), api.ErrShort}, {c, true, 2, list(0, 0), api.ErrShort},
		{c, true, 101, long, api.ErrMore}, {c, true, 40, list(220, 999), api.ErrMore}, {c, true, 40, list(120, 120, 120), api.ErrMore}, {c, true, 40, list(0, 0, 0, 0), api.ErrMore}, {c, true, 40, list(0, 0, 220, 101), api.ErrMore}, {c, false, 101, list(0, 0, 0, 101), api.ErrMore},
		{c, true, 101, list(999), api.ErrArg}, {c, true, 101, list(101, 121), api.ErrArg}, {c, true, 101, list(101, 101, 100), api.ErrArg}, {c, true, 101, list(101, 101, 100, 101), api.ErrArg}, {c, false, 101, list(101, 325, 0), api.ErrArg}, {c, true, 101, list(501), api.ErrArg}, {c, true, 101, list(-1), api.ErrArg}, {c, true, 101, list(20), api.ErrArg}, {c, true, 101, list(425), api.ErrArg},
		{c, true, 101, list(math.MinInt), api.ErrArg}, {c, true, 101, list(math.MaxInt), api.ErrArg},
	} {
		if got, e := leg.Visit(x.c, x.in, x.left, x.beds); e != x.want || got != (api.LegThrow{}) {
			t.Error(i, got, e)
		}
	}
}

// P3.2: from all scores of a leg, with all gates, by any beds, Visit returns what the text says.
func TestVisitByText(t *testing.T) {
	r := rand.New(rand.NewPCG(1, 3))
	beds := append(allBeds(), 121, 25, 999, -101)
	for range 200000 {
		c := count(2+r.IntN(150), api.Gate(r.IntN(3)), api.Gate(r.IntN(3)))
		in, left := r.IntN(3) > 0, c.Start
		if in {
			left = 1 + r.IntN(c.Start)
		}
		if left == 1 && c.Out != free {
			continue
		}
		var l []api.Bed
		for range r.IntN(5) {
			l = append(l, beds[r.IntN(len(beds))])
		}
		want, _, f := visitByText(c, in, left, l)
		if got, e := leg.Visit(c, in, left, l); got != want || e != f {
			t.Fatal(c, in, left, l, got, e, want, f)
		}
	}
}

// P3.3, P3.4: how legs go on and end.
func TestPlay(t *testing.T) {
	three := api.LegRules{Counts: []api.Count{count(101, free, double), count(40, double, double), count(2, free, free)}, First: 1}
	win, none := list(320, 101, 220), list(0, 0, 0)
	for i, c := range []struct {
		r    api.LegRules
		l    []api.LegVisit
		want api.LegState
	}{
		{three, nil, api.LegState{Left: []int{101, 40, 2}, Darts: []int{0, 0, 0}, In: []bool{true, false, true}, Next: 1}},
		// After the last number comes number 0, and the round is complete when First is next.
		{three, []api.LegVisit{by(1, none...)}, api.LegState{Left: []int{101, 40, 2}, Darts: []int{0, 3, 0}, In: []bool{true, false, true}, Next: 2}},
		{three, []api.LegVisit{by(1, 0, 201, 0), by(2, 102)}, api.LegState{Left: []int{101, 38, 0}, Darts: []int{0, 3, 1}, In: []bool{true, true, true}, Next: -1, Over: true, Winners: []int{2}}},
		{three, []api.LegVisit{by(1, none...), by(2, 101, 0, 0), by(0, none...)}, api.LegState{Left: []int{101, 40, 1}, Darts: []int{3, 3, 3}, In: []bool{true, false, true}, Next: 1, Round: 1}},
		{three, []api.LegVisit{by(1, none...), by(2, 101, 0, 0), by(0, win...)}, api.LegState{Left: []int{0, 40, 1}, Darts: []int{3, 3, 3}, In: []bool{true, false, true}, Next: -1, Round: 1, Over: true, Winners: []int{0}}},
		// A bust visit leaves a player as before, but its darts are counted.
		{three, []api.LegVisit{by(1, 201, 220)}, api.LegState{Left: []int{101, 40, 2}, Darts: []int{0, 2, 0}, In: []bool{true, false, true}, Next: 2}},
		// Equal: the others throw as well, and the fewest darts in the last round win, whatever was thrown before.
		{equal(three), []api.LegVisit{by(1, 220)}, api.LegState{Left: []int{101, 0, 2}, Darts: []int{0, 1, 0}, In: []bool{true, true, true}, Next: 2}},
		{equal(three), []api.LegVisit{by(1, 0, 220), by(2, 0, 102)}, api.LegState{Left: []int{101, 0, 0}, Darts: []int{0, 2, 2}, In: []bool{true, true, true}, Next: 0}},
		{equal(three), []api.LegVisit{by(1, 0, 220), by(2, 0, 102), by(0, win...)}, api.LegState{Left: []int{0, 0, 0}, Darts: []int{3, 2, 2}, In: []bool{true, true, true}, Next: -1, Round: 1, Over: true, Winners: []int{1, 2}}},
		{equal(three), []api.LegVisit{by(1, 0, 0, 220), by(2, 102), by(0, win...)}, api.LegState{Left: []int{0, 0, 0}, Darts: []int{3, 3, 1}, In: []bool{true, true, true}, Next: -1, Round: 1, Over: true, Winners: []int{2}}},
		// So many rounds, and nobody has ended: the least that is left wins, whatever the start was.
		{limited(three, 1), []api.LegVisit{by(1, none...), by(2, 0, 0, 0), by(0, 320, 0, 0)}, api.LegState{Left: []int{41, 40, 2}, Darts: []int{3, 3, 3}, In: []bool{true, false, true}, Next: -1, Round: 1, Over: true, Winners: []int{2}}},
		{limited(same(3, count(50, free, double)), 1), []api.LegVisit{by(0, 0, 0, 110), by(1, 0, 0, 109), by(2, 205, 0, 0)}, api.LegState{Left: []int{40, 41, 40}, Darts: []int{3, 3, 3}, In: []bool{true, true, true}, Next: -1, Round: 1, Over: true, Winners: []int{0, 2}}},
		{limited(two(), 2), []api.LegVisit{by(0, none...), by(1, none...)}, api.LegState{Left: []int{101, 101}, Darts: []int{3, 3}, In: []bool{true, true}, Round: 1}},
		{equal(limited(two(), 1)), []api.LegVisit{by(0, none...), by(1, win...)}, api.LegState{Left: []int{101, 0}, Darts: []int{3, 3}, In: []bool{true, true}, Next: -1, Round: 1, Over: true, Winners: []int{1}}},
		{limited(two(), 1), []api.LegVisit{by(0, win...)}, api.LegState{Left: []int{0, 101}, Darts: []int{3, 0}, In: []bool{true, true}, Next: -1, Over: true, Winners: []int{0}}},
		// A single player: each visit is a round.
		{same(1, count(40, free, double)), []api.LegVisit{by(0, none...), by(0, 120, 120)}, api.LegState{Left: []int{40}, Darts: []int{5}, In: []bool{true}, Round: 2}},
		{equal(same(1, count(40, free, double))), []api.LegVisit{by(0, none...), by(0, 220)}, api.LegState{Left: []int{0}, Darts: []int{4}, In: []bool{true}, Next: -1, Round: 2, Over: true, Winners: []int{0}}},
	} {
		s, at, e := leg.Play(c.r, c.l)
		if !sameLeg(s, c.want) || at != 0 || e != api.OK {
			t.Error(i, s, at, e)
		}
	}
}

// P3.3: the errors of visits, in their order, with the number of the visit.
func TestPlayErrors(t *testing.T) {
	win, turn := list(320, 101, 220), list(101, 101, 101)
	for i, c := range []struct {
		r  api.LegRules
		l  []api.LegVisit
		at int
		e  api.Errno
	}{
		{two(), make([]api.LegVisit, 2001), 0, api.ErrLong}, {two(), slices.Repeat([]api.LegVisit{by(-1, 999)}, 2001), 0, api.ErrLong}, {two(), make([]api.LegVisit, 2000), 0, api.ErrShort},
		{two(), []api.LegVisit{by(0, win...), by(1, turn...)}, 1, api.ErrOver}, {two(), []api.LegVisit{by(0, win...), by(-1)}, 1, api.ErrOver}, {two(), []api.LegVisit{by(0, win...), by(0, 999)}, 1, api.ErrOver}, {equal(two()), []api.LegVisit{by(0, win...), by(1, turn...), by(0, turn...)}, 2, api.ErrOver}, {limited(two(), 1), []api.LegVisit{by(0, turn...), by(1, turn...), by(7)}, 2, api.ErrOver},
		{two(), []api.LegVisit{by(2, turn...)}, 0, api.ErrArg}, {two(), []api.LegVisit{by(0, turn...), by(-1, turn...)}, 1, api.ErrArg}, {two(), []api.LegVisit{by(math.MaxInt)}, 0, api.ErrArg}, {two(), []api.LegVisit{by(math.MinInt, 999)}, 0, api.ErrArg}, {same(8, count(101, free, free)), []api.LegVisit{by(8)}, 0, api.ErrArg},
		{two(), []api.LegVisit{by(1, turn...)}, 0, api.ErrTurn}, {two(), []api.LegVisit{by(1, 999)}, 0, api.ErrTurn}, {two(), []api.LegVisit{by(0, turn...), by(0)}, 1, api.ErrTurn}, {equal(two()), []api.LegVisit{by(0, win...), by(0, turn...)}, 1, api.ErrTurn}, {from(two(), 1), []api.LegVisit{by(0, turn...)}, 0, api.ErrTurn},
		{two(), []api.LegVisit{by(0, turn...), by(1, 101, 101)}, 1, api.ErrShort}, {two(), []api.LegVisit{by(0, turn...), by(1)}, 1, api.ErrShort}, {two(), []api.LegVisit{by(0, turn...), by(1, 101, 101, 101, 999)}, 1, api.ErrMore}, {two(), []api.LegVisit{by(0, turn...), by(1, 101, 999, 101, 101)}, 1, api.ErrArg},
		// The first visit with an error decides.
		{two(), []api.LegVisit{by(0, 101), by(5, 999)}, 0, api.ErrShort}, {two(), []api.LegVisit{by(0, turn...), by(0), by(7), by(1, 999)}, 1, api.ErrTurn},
	} {
		if s, at, e := leg.Play(c.r, c.l); !noLeg(s) || at != c.at || e != c.e {
			t.Error(i, s, at, e)
		}
	}
}

// P3.3: just MaxLegVisits visits are allowed.
func TestLongLeg(t *testing.T) {
	var l []api.LegVisit
	for i := range api.MaxLegVisits {
		l = append(l, by(i%2, 0, 0, 0))
	}
	want := api.LegState{Left: []int{101, 101}, Darts: []int{3000, 3000}, In: []bool{true, true}, Round: 1000}
	if s, at, e := leg.Play(two(), l); !sameLeg(s, want) || at != 0 || e != api.OK {
		t.Error(s, at, e)
	}
	if s, faults, e := leg.Judge(two(), l); !sameLeg(s, want) || faults != nil || e != api.OK {
		t.Error(s, faults, e)
	}
	want = api.LegState{Left: []int{101, 101}, Darts: []int{600, 600}, In: []bool{true, true}, Next: -1, Round: 200, Over: true, Winners: []int{0, 1}}
	if s, at, e := leg.Play(limited(two(), api.MaxLegRounds), l[:400]); !sameLeg(s, want) || at != 0 || e != api.OK {
		t.Error(s, at, e)
	}
	if s, at, e := leg.Play(limited(two(), api.MaxLegRounds), l); !noLeg(s) || at != 400 || e != api.ErrOver {
		t.Error(s, at, e)
	}
	if s, faults, e := leg.Judge(limited(two(), api.MaxLegRounds), l); !sameLeg(s, want) || len(faults) != 1600 || e != api.OK {
		t.Error(s, len(faults), e)
	}
}

// P3.5: wrong visits are left out, and named with the bed that is wrong.
func TestJudge(t *testing.T) {
	turn, win := list(101, 101, 101), list(320, 101, 220)
	for i, c := range []struct {
		r      api.LegRules
		l      []api.LegVisit
		left   []int
		faults []api.LegFault
	}{
		{two(), nil, []int{101, 101}, nil},
		{two(), []api.LegVisit{by(0, turn...), by(1, turn...)}, []int{98, 98}, nil},
		{two(), []api.LegVisit{by(1, turn...), by(0, turn...), by(2, turn...), by(1, turn...)}, []int{98, 98}, []api.LegFault{{Visit: 0, Dart: -1, Error: api.ErrTurn}, {Visit: 2, Dart: -1, Error: api.ErrArg}}},
		{two(), []api.LegVisit{by(0, 999, 999), by(0, 101, 999), by(0, 101, 101, -1), by(0, 101, 101, 101, 101), by(0, 101, 101, 101, 101, 101), by(0, 101), by(0)}, []int{101, 101}, []api.LegFault{{Visit: 0, Dart: 0, Error: api.ErrArg}, {Visit: 1, Dart: 1, Error: api.ErrArg}, {Visit: 2, Dart: 2, Error: api.ErrArg}, {Visit: 3, Dart: 3, Error: api.ErrMore}, {Visit: 4, Dart: 3, Error: api.ErrMore}, {Visit: 5, Dart: -1, Error: api.ErrShort}, {Visit: 6, Dart: -1, Error: api.ErrShort}}},
		// What was scored before the wrong bed does not count either; a dart after a win or a bust is wrong.
		{two(), []api.LegVisit{by(0, 320, 121), by(0, 320, 101, 220, 0), by(0, 320, 220, 0), by(0, 320, 220), by(1, win...), by(0, turn...), by(9, 999)}, []int{101, 0}, []api.LegFault{{Visit: 0, Dart: 1, Error: api.ErrArg}, {Visit: 1, Dart: 3, Error: api.ErrMore}, {Visit: 2, Dart: 2, Error: api.ErrMore}, {Visit: 5, Dart: -1, Error: api.ErrOver}, {Visit: 6, Dart: -1, Error: api.ErrOver}}},
		{equal(two()), []api.LegVisit{by(0, win...), by(0, win...), by(1, 320, 101, 220), by(1, turn...)}, []int{0, 0}, []api.LegFault{{Visit: 1, Dart: -1, Error: api.ErrTurn}, {Visit: 3, Dart: -1, Error: api.ErrOver}}},
		{same(1, count(40, double, double)), []api.LegVisit{by(0, 220, 101), by(0, 101, 220)}, []int{0}, []api.LegFault{{Visit: 0, Dart: 1, Error: api.ErrMore}}},
	} {
		s, faults, e := leg.Judge(c.r, c.l)
		if !slices.Equal(s.Left, c.left) || !slices.Equal(faults, c.faults) || e != api.OK {
			t.Error(i, s, faults, e)
		}
	}
	for _, l := range [][]api.LegVisit{make([]api.LegVisit, 2001), slices.Repeat([]api.LegVisit{by(0, turn...)}, 2001)} {
		if s, faults, e := leg.Judge(two(), l); !noLeg(s) || faults != nil || e != api.ErrLong {
			t.Error(s, faults, e)
		}
	}
}

// P3.3 to P3.5: all sorts of legs, with right and wrong visits, are as the text says.
func TestLegsByText(t *testing.T) {
	r := rand.New(rand.NewPCG(2, 3))
	overs, shared, found := 0, 0, map[api.Errno]int{}
	for range 6000 {
		rules := randomRules(r)
		l, s := randomLeg(r, rules, 30)
		if got, at, e := leg.Play(rules, l); !sameLeg(got, s) || at != 0 || e != api.OK {
			t.Fatal(rules, l, got, at, e, s)
		}
		if s.Over {
			overs++
		}
		if len(s.Winners) > 1 {
			shared++
		}
		l = spoiled(r, l)
		s, faults, _ := judgeByText(rules, l)
		if got, named, e := leg.Judge(rules, l); !sameLeg(got, s) || !slices.Equal(named, faults) || e != api.OK {
			t.Fatal(rules, l, got, named, e, s, faults)
		}
		for _, f := range faults {
			found[f.Error]++
		}
		if len(faults) == 0 {
			continue
		}
		if got, at, e := leg.Play(rules, l); !noLeg(got) || at != faults[0].Visit || e != faults[0].Error {
			t.Fatal(rules, l, got, at, e, faults)
		}
	}
	if overs < 1000 || shared < 100 || found[api.ErrOver] < 100 || found[api.ErrArg] < 100 || found[api.ErrTurn] < 100 || found[api.ErrMore] < 100 || found[api.ErrShort] < 100 {
		t.Error("too few legs of some sort:", overs, shared, found)
	}
}

// R4: no argument is changed, and a result shares no memory with an argument or another result.
func TestMemory(t *testing.T) {
	rules := two()
	beds := append(list(101, 101, 101), 999)[:3]
	l := append([]api.LegVisit{by(0, beds...), by(0), by(1, 320, 101, 220)}, by(9, 9))[:3]
	s, _, _ := leg.Judge(rules, l)
	again, faults, _ := leg.Judge(rules, l)
	if !slices.Equal(rules.Counts, two().Counts) || !slices.Equal(beds[:4], list(101, 101, 101, 999)) || l[:4][3].Player != 9 || !slices.Equal(l[0].Beds, list(101, 101, 101)) {
		t.Error(rules, l, beds)
	}
	for _, part := range [][]int{s.Left, s.Darts, s.Winners} {
		part = part[:cap(part)]
		for i := range part {
			part[i] = -7
		}
	}
	clear(s.In[:cap(s.In)])
	clear(rules.Counts)
	clear(l)
	want := api.LegState{Left: []int{98, 0}, Darts: []int{3, 3}, In: []bool{true, true}, Next: -1, Round: 1, Over: true, Winners: []int{1}}
	if !sameLeg(again, want) || !slices.Equal(faults, []api.LegFault{{Visit: 1, Dart: -1, Error: api.ErrTurn}}) {
		t.Error(again, faults)
	}
}
