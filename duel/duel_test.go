package duel_test

import (
	"math"
	"math/rand/v2"
	"slices"
	"testing"

	"oche/api"
	"oche/duel"
)

// wrong is rules that are not valid, and their error.
type wrong struct {
	r api.DuelRules
	e api.Errno
}

// with returns the rules of the examples, changed.
func with(change func(r *api.DuelRules)) api.DuelRules {
	r := example(one(500000))
	change(&r)
	return r
}

// wrongRules returns rules with each error of P9.1, and with several of them.
func wrongRules() []wrong {
	long := slices.Repeat([]api.ThrowAim{half(201)}, 21)
	ten := throws(201, make([]api.ThrowBed, 11)...)
	l := []wrong{
		// The errors of a law come first.
		{rules(2, 1, nil, long...), api.ErrLong}, {rules(41, 3, nil, long...), api.ErrLong}, {rules(0, -1, nil, ten), api.ErrLong}, {api.DuelRules{Law: api.ThrowLaw{Aims: long}}, api.ErrLong},
		{api.DuelRules{}, api.ErrArg}, {rules(2, 1, nil), api.ErrArg}, {rules(2, 1, nil, half(0)), api.ErrArg}, {rules(2, 1, nil, half(201), sure(121)), api.ErrArg}, {rules(2, 1, nil, throws(201, lands(201, 1, 1))), api.ErrArg},
		{with(func(r *api.DuelRules) { r.Law.Den = 3 }), api.ErrArg}, {with(func(r *api.DuelRules) { r.Law.Den = 0 }), api.ErrArg},
		// There are 1 to 10 Ends, and the last one surely ends the leg.
		{with(func(r *api.DuelRules) { r.Ends = nil }), api.ErrArg}, {with(func(r *api.DuelRules) { r.Ends = spans() }), api.ErrArg}, {with(func(r *api.DuelRules) { r.Ends = slices.Repeat(r.Ends[1:], 11) }), api.ErrArg}, {with(func(r *api.DuelRules) { r.Ends = r.Ends[:1] }), api.ErrArg},
		{with(func(r *api.DuelRules) { r.Ends = spans(one(0)) }), api.ErrArg}, {with(func(r *api.DuelRules) { r.Ends = spans(to(whole-1, whole)) }), api.ErrArg}, {with(func(r *api.DuelRules) { r.Ends = spans(to(0, whole)) }), api.ErrArg}, {with(func(r *api.DuelRules) { r.Ends = spans(one(whole), one(whole-1)) }), api.ErrArg}, {with(func(r *api.DuelRules) { r.Ends = spans(to(whole, whole+1)) }), api.ErrArg}, {with(func(r *api.DuelRules) { r.Ends = spans(one(whole + 1)) }), api.ErrArg}, {with(func(r *api.DuelRules) { r.Ends = spans(to(whole, whole-1)) }), api.ErrArg},
	}
	for _, start := range []int{math.MinInt, -2, -1, 0, 1, 41, 42, 60, 501, 1001, math.MaxInt} {
		l = append(l, wrong{rules(start, 0, nil, half(201)), api.ErrArg}, wrong{rules(start, 1, nil, half(201)), api.ErrArg})
	}
	for _, gate := range []api.Gate{math.MinInt, -1, 3, 4, math.MaxInt} {
		l = append(l, wrong{rules(2, gate, nil, half(201)), api.ErrArg}, wrong{rules(40, gate, nil, half(201)), api.ErrArg})
	}
	for _, s := range spans(to(1, 0), to(-1, 0), one(-1), to(5, whole+1), one(whole+1), to(whole, 0), to(math.MinInt, math.MaxInt), to(math.MaxInt, math.MinInt)) {
		l = append(l, wrong{example(s), api.ErrArg}, wrong{example(one(0), s, to(1, 2)), api.ErrArg})
	}
	return l
}

// P9.1: rules up to each limit; all other functions have these errors first, and then no result.
func TestCheck(t *testing.T) {
	for start := 2; start <= 40; start++ {
		for gate := range api.Gate(3) {
			if e := duel.Check(rules(start, gate, spans(to(0, whole), one(whole), one(0)), half(201))); e != api.OK {
				t.Error(start, gate, e)
			}
		}
	}
	for rounds := range 10 {
		if e := duel.Check(rules(40, 2, slices.Repeat(spans(to(3, 4)), rounds), slices.Repeat([]api.ThrowAim{half(201)}, 20)...)); e != api.OK {
			t.Error(rounds, e)
		}
	}
	for i, c := range wrongRules() {
		if e := duel.Check(c.r); e != c.e {
			t.Error(i, e)
		}
		low, high, e := duel.Table(c.r)
		first, second, f := duel.Toss(c.r)
		if len(low)+len(high) != 0 || first != one(0) || second != one(0) || e != c.e || f != c.e {
			t.Error(i, low, high, first, second, e, f)
		}
		for _, p := range []api.DuelPosition{{}, at(0, 2, 2, 3), at(-1, 9, 2, -1)} {
			odds, e := duel.Odds(c.r, p)
			best, number, f := duel.Aim(c.r, p)
			may, g := duel.May(c.r, p)
			if best != 0 || number != 0 || len(odds)+len(may) != 0 || e != c.e || f != c.e || g != c.e {
				t.Error(i, p, odds, best, number, may, e, f, g)
			}
		}
		for _, table := range [][][]int{nil, rows(ints(0, 0, 5)), rows(ints(5, 5, -1), nil)} {
			for _, most := range []bool{false, true} {
				if ok, round, score, e := duel.Proves(c.r, table, most); ok || round != 0 || score != 0 || e != c.e {
					t.Error(i, table, most, ok, round, score, e)
				}
			}
		}
	}
}

// P9.2, P9.7: both tables, and who throws first and second.
func TestTable(t *testing.T) {
	for i, c := range []struct {
		r             api.DuelRules
		low, high     [][]int
		first, second api.Span
	}{
		{rules(2, 1, nil, sure(201)), rows(ints(0, 0, whole)), rows(ints(0, 0, whole)), one(whole), one(0)},
		{rules(2, 1, nil, wild(201)), rows(ints(0, 0, 0)), rows(ints(0, 0, whole)), to(0, whole), one(0)},
		{rules(2, 1, nil, wild(201), half(201)), rows(ints(0, 0, 875000)), rows(ints(0, 0, whole)), to(875000, whole), one(0)},
		// The opponent always ends the leg, or never does, or it is not known.
		{example(one(whole)), rows(ints(0, 0, 875000), ints(0, 0, 875000)), rows(ints(0, 0, 875000), ints(0, 0, 875000)), one(875000), one(0)},
		{example(one(0)), rows(ints(0, 0, 984375), ints(0, 0, 875000)), rows(ints(0, 0, 984375), ints(0, 0, 875000)), one(984375), one(875000)},
		{example(to(0, whole)), rows(ints(0, 0, 875000), ints(0, 0, 875000)), rows(ints(0, 0, 984375), ints(0, 0, 875000)), to(875000, 984375), to(0, 875000)},
		// A visit by which nothing is scored keeps what was left, and so does a bust one.
		{rules(3, 1, spans(one(200000)), half(301), sure(201)), rows(ints(0, 0, whole, 0), ints(0, 0, whole, 0)), rows(ints(0, 0, whole, 0), ints(0, 0, whole, 0)), one(0), one(0)},
		{rules(3, 1, spans(one(200000)), half(101), sure(201)), rows(ints(0, 0, whole, 925000), ints(0, 0, whole, 750000)), rows(ints(0, 0, whole, 925000), ints(0, 0, whole, 750000)), one(925000), one(600000)},
		// With GateAny 1 can be left, and be ended by the single 1 alone.
		{rules(2, 0, nil, half(101)), rows(ints(0, 875000, 500000)), rows(ints(0, 875000, 500000)), one(500000), one(0)},
		{rules(3, 0, spans(one(500000)), sure(102)), rows(ints(0, 0, whole, 0), ints(0, 0, whole, 0)), rows(ints(0, 0, whole, 0), ints(0, 0, whole, 0)), one(0), one(0)},
		{rules(3, 2, nil, half(301)), rows(ints(0, 0, 0, 875000)), rows(ints(0, 0, 0, 875000)), one(875000), one(0)},
		{rules(3, 1, nil, half(301)), rows(ints(0, 0, 0, 0)), rows(ints(0, 0, 0, 0)), one(0), one(0)},
		// A bust dart ends the visit; a miss does not.
		{rules(2, 1, spans(one(250000)), throws(201, lands(101, 1, 1), lands(201, 1, 1))), rows(ints(0, 0, 687500), ints(0, 0, 500000)), rows(ints(0, 0, 687500), ints(0, 0, 500000)), one(687500), one(375000)},
		// What is lost by rounding after a visit: 2 of 3 of a number that is not whole.
		{example(one(333333)), rows(ints(0, 0, 947916), ints(0, 0, 875000)), rows(ints(0, 0, 947917), ints(0, 0, 875000)), to(947916, 947917), to(583333, 583334)},
		{rules(2, 1, spans(one(999999)), wild(201), half(201)), rows(ints(0, 0, 875000), ints(0, 0, 875000)), rows(ints(0, 0, whole), ints(0, 0, whole)), to(875000, whole), to(0, 1)},
	} {
		low, high, e := duel.Table(c.r)
		first, second, f := duel.Toss(c.r)
		if !same(low, c.low) || !same(high, c.high) || first != c.first || second != c.second || e != api.OK || f != api.OK {
			t.Error(i, low, high, first, second, e, f)
		}
	}
}

// P9.2, P9.7: random tables, and who throws first and second, by the text.
func TestTableByText(t *testing.T) {
	r := rand.New(rand.NewPCG(1, 2))
	apart := 0
	for range 500 {
		l := randomRules(r, 4, 12, 5, 3, 4)
		low, high, e := duel.Table(l)
		if !same(low, tableByText(l, false)) || !same(high, tableByText(l, true)) || e != api.OK {
			t.Fatal(l, low, high, e)
		}
		if !same(low, high) {
			apart++
		}
		first, second, f := duel.Toss(l)
		waits := to(byText(l, low, false).after(0, l.Start), byText(l, high, true).after(0, l.Start))
		if first != to(low[0][l.Start], high[0][l.Start]) || second != waits || f != api.OK {
			t.Fatal(l, first, second, waits, f)
		}
	}
	if apart < 100 {
		t.Error(apart)
	}
}

// P9.2: a round uses the numbers of the next one alone, and a score those of the smaller ones and its own.
func TestPartsOfTables(t *testing.T) {
	r := rand.New(rand.NewPCG(3, 4))
	for range 100 {
		l := randomRules(r, 4, 15, 6, 3, 5)
		low, high, _ := duel.Table(l)
		for round := range l.Ends {
			for start := 2; start <= l.Start; start++ {
				part := l
				part.Start, part.Ends = start, l.Ends[round:]
				lows, highs, e := duel.Table(part)
				if len(lows) != len(part.Ends) || len(highs) != len(part.Ends) || e != api.OK {
					t.Fatal(part, lows, highs, e)
				}
				for i := range lows {
					if !slices.Equal(lows[i], low[round+i][:start+1]) || !slices.Equal(highs[i], high[round+i][:start+1]) {
						t.Fatal(l, round, start, lows, highs)
					}
				}
			}
		}
	}
}

// P9.6: tables that are given, with and without an error.
func TestProves(t *testing.T) {
	two, any := example(one(500000)), rules(2, 0, nil, half(101))
	last := ints(0, 0, 875000)
	for i, c := range []struct {
		r            api.DuelRules
		table        [][]int
		most         bool
		ok           bool
		round, score int
		e            api.Errno
	}{
		{two, rows(ints(0, 0, 929687), last), false, true, 0, 0, api.OK}, {two, rows(ints(0, 0, 929688), last), false, false, 0, 2, api.OK}, {two, rows(ints(0, 0, 0), ints(0, 0, 0)), false, true, 0, 0, api.OK}, {two, rows(ints(0, 0, 929686), last), false, true, 0, 0, api.OK}, {two, rows(ints(0, 0, whole), ints(0, 0, whole)), false, false, 0, 2, api.OK},
		{two, rows(ints(0, 0, 929688), last), true, true, 0, 0, api.OK}, {two, rows(ints(0, 0, 929687), last), true, false, 0, 2, api.OK}, {two, rows(ints(0, 0, 0), ints(0, 0, 0)), true, false, 0, 2, api.OK}, {two, rows(ints(0, 0, 929689), last), true, true, 0, 0, api.OK}, {two, rows(ints(0, 0, whole), ints(0, 0, whole)), true, true, 0, 0, api.OK},
		// A number that does not hold helps the round before it, and one that is weaker than it could be hurts it.
		{two, rows(ints(0, 0, 929687), ints(0, 0, 875001)), false, false, 1, 2, api.OK}, {two, rows(ints(0, 0, 929687), ints(0, 0, 874997)), false, true, 0, 0, api.OK}, {two, rows(ints(0, 0, 929687), ints(0, 0, 874900)), false, false, 0, 2, api.OK}, {two, rows(ints(0, 0, 937500), ints(0, 0, whole)), false, false, 1, 2, api.OK},
		{two, rows(ints(0, 0, 929688), ints(0, 0, 874999)), true, false, 1, 2, api.OK}, {two, rows(ints(0, 0, 929688), ints(0, 0, 875003)), true, true, 0, 0, api.OK}, {two, rows(ints(0, 0, 929688), ints(0, 0, 875100)), true, false, 0, 2, api.OK}, {two, rows(ints(0, 0, 875000), ints(0, 0, 0)), true, false, 1, 2, api.OK},
		// The first round counts first, and in it the first score.
		{rules(3, 0, spans(one(whole)), half(101)), rows(ints(0, 875000, 500000, 125000), ints(0, 875000, 500000, 125000)), false, true, 0, 0, api.OK}, {rules(3, 0, spans(one(whole)), half(101)), rows(ints(0, 875000, 500000, 125001), ints(0, 875001, 500000, 125000)), false, false, 0, 3, api.OK}, {rules(3, 0, spans(one(whole)), half(101)), rows(ints(0, 875001, 500000, 125001), ints(0, 875000, 500000, 125000)), false, false, 0, 1, api.OK}, {rules(3, 0, spans(one(whole)), half(101)), rows(ints(0, 875000, 500000, 125000), ints(0, 875000, 499999, 124999)), true, false, 1, 2, api.OK},
		// A list for each round, of Start + 1 numbers, and 0 below lowest.
		{two, nil, false, false, 0, 0, api.ErrForm}, {two, rows(last), true, false, 0, 0, api.ErrForm}, {two, rows(last, last, last), false, false, 0, 0, api.ErrForm}, {two, rows(nil, last), false, false, 0, 0, api.ErrForm}, {two, rows(last, nil), true, false, 0, 0, api.ErrForm}, {two, rows(last, ints(0, 0)), false, false, 0, 0, api.ErrForm}, {two, rows(ints(0, 0, 0, 0), last), false, false, 0, 0, api.ErrForm}, {two, rows(last, ints(1, 0, 0)), false, false, 0, 0, api.ErrForm}, {two, rows(last, ints(0, 1, 0)), true, false, 0, 0, api.ErrForm}, {two, rows(ints(0, -1, 0), last), true, false, 0, 0, api.ErrForm}, {two, rows(ints(math.MinInt, 0, 0), last), false, false, 0, 0, api.ErrForm}, {two, rows(last, ints(0, math.MaxInt, 0)), false, false, 0, 0, api.ErrForm},
		{any, rows(ints(0, 875000, 500000)), false, true, 0, 0, api.OK}, {any, rows(ints(1, 875000, 500000)), false, false, 0, 0, api.ErrForm}, {any, rows(ints(0, 875000)), false, false, 0, 0, api.ErrForm}, {any, rows(ints(0, -1, 500000)), true, false, 0, 0, api.ErrArg},
		{two, rows(ints(0, 0, -1), last), false, false, 0, 0, api.ErrArg}, {two, rows(last, ints(0, 0, -1)), true, false, 0, 0, api.ErrArg}, {two, rows(last, ints(0, 0, whole+1)), false, false, 0, 0, api.ErrArg}, {two, rows(ints(0, 0, whole+1), last), true, false, 0, 0, api.ErrArg}, {two, rows(last, ints(0, 0, math.MinInt)), true, false, 0, 0, api.ErrArg}, {two, rows(last, ints(0, 0, math.MaxInt)), false, false, 0, 0, api.ErrArg},
		// A wrong form comes before a wrong number, and both before an inequality that does not hold.
		{two, rows(ints(0, 0, -1), ints(0, 1, 0)), false, false, 0, 0, api.ErrForm}, {two, rows(ints(0, 0, whole+1), ints(0, 0)), true, false, 0, 0, api.ErrForm}, {two, rows(ints(0, 0, -1)), true, false, 0, 0, api.ErrForm}, {two, rows(ints(0, 1, -1), last), true, false, 0, 0, api.ErrForm}, {two, rows(ints(0, 0, whole), ints(0, 0, whole+1)), false, false, 0, 0, api.ErrArg},
	} {
		ok, round, score, e := duel.Proves(c.r, c.table, c.most)
		if ok != c.ok || round != c.round || score != c.score || e != c.e {
			t.Error(i, ok, round, score, e)
		}
	}
}

// P9.6: random tables, most of which are near to what is true, by the text.
func TestProvesByText(t *testing.T) {
	r := rand.New(rand.NewPCG(5, 6))
	found := map[bool]int{}
	for range 2000 {
		l := randomRules(r, 4, 8, 4, 3, 4)
		low, high, _ := duel.Table(l)
		for _, most := range []bool{false, true} {
			table := copied(map[bool][][]int{false: low, true: high}[most])
			for range r.IntN(4) {
				round, score := r.IntN(len(table)), 2+r.IntN(l.Start-1)
				near := table[round][score] + some(r, -1, 1, -100, 100, -100000, 100000)
				table[round][score] = min(max(0, some(r, near, near, near, r.IntN(whole+1), 0, whole)), whole)
			}
			want, k, s := provesByText(l, table, most)
			found[want]++
			if ok, round, score, e := duel.Proves(l, table, most); ok != want || round != k || score != s || e != api.OK {
				t.Fatal(l, table, most, ok, round, score, e, want, k, s)
			}
		}
	}
	if found[true] < 500 || found[false] < 500 {
		t.Error(found)
	}
}
