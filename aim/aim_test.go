package aim_test

import (
	"math"
	"math/rand/v2"
	"slices"
	"testing"

	"oche/aim"
	"oche/api"
)

// wrong is rules that are not valid, and their error.
type wrong struct {
	r api.AimRules
	e api.Errno
}

// wrongRules returns rules with each error of P8.1, and with several of them.
func wrongRules() []wrong {
	long := slices.Repeat([]api.ThrowAim{half()}, 21)
	l := []wrong{
		// The errors of a law come first.
		{rules(2, 2, 1, long...), api.ErrLong}, {rules(2, 61, 3, long...), api.ErrLong}, {rules(0, 1, -1, throws(0, make([]api.ThrowBed, 11)...)), api.ErrLong},
		{api.AimRules{}, api.ErrArg}, {rules(2, 2, 1), api.ErrArg}, {rules(3, 2, 1, half()), api.ErrArg}, {rules(3001, 2, 1, throws(101, lands(101, 3001, 3001))), api.ErrArg}, {rules(2, 2, 1, half(), throws(0, lands(101, 2, 2))), api.ErrArg},
	}
	for _, start := range []int{math.MinInt, -2, -1, 0, 1, 61, 62, 501, 1001, math.MaxInt} {
		l = append(l, wrong{rules(2, start, 0, half()), api.ErrArg}, wrong{rules(2, start, 1, half()), api.ErrArg})
	}
	for _, gate := range []api.Gate{math.MinInt, -1, 3, 4, math.MaxInt} {
		l = append(l, wrong{rules(2, 2, gate, half()), api.ErrArg}, wrong{rules(2, 60, gate, half()), api.ErrArg})
	}
	return l
}

// P8.1: rules with and without an error, up to each limit; all other functions have these errors first, and then no result.
func TestCheck(t *testing.T) {
	for start := 2; start <= 60; start++ {
		for gate := range api.Gate(3) {
			if e := aim.Check(rules(2, start, gate, half())); e != api.OK {
				t.Error(start, gate, e)
			}
		}
	}
	if e := aim.Check(rules(2, 60, 2, slices.Repeat([]api.ThrowAim{half()}, 20)...)); e != api.OK {
		t.Error(e)
	}
	for i, c := range wrongRules() {
		if e := aim.Check(c.r); e != c.e {
			t.Error(i, e)
		}
		upper, lower, e := aim.Table(c.r)
		none, f := aim.Never(c.r)
		if len(upper)+len(lower)+len(none) != 0 || e != c.e || f != c.e {
			t.Error(i, upper, lower, none, e, f)
		}
		for _, p := range []api.AimPosition{{}, place(2, 2, 3), place(9, 2, -1)} {
			best, worst, e := aim.Aim(c.r, p)
			costs, f := aim.Costs(c.r, p)
			may, g := aim.May(c.r, p)
			if best != 0 || worst != 0 || len(costs)+len(may) != 0 || e != c.e || f != c.e || g != c.e {
				t.Error(i, p, best, worst, costs, may, e, f, g)
			}
		}
		for _, table := range [][]int{nil, {0, 0, most}, {5, 5, -1}} {
			for _, least := range []bool{false, true} {
				if at, e := aim.Proves(c.r, table, least); at != 0 || e != c.e {
					t.Error(i, table, least, at, e)
				}
			}
		}
	}
}

// P8.2, P8.7: tables, and the scores that are not surely ended.
func TestTable(t *testing.T) {
	// bust hits the double 1 with so many of 3000 darts; the others are bust.
	bust := func(hits int) api.AimRules {
		return rules(3000, 2, api.GateDouble, throws(201, lands(101, 3000-hits, 3000-hits), lands(201, hits, hits)))
	}
	for i, c := range []struct {
		r                   api.AimRules
		upper, lower, never []int
	}{
		{one(2), ints(0, 0, 1142858), ints(0, 0, 1142857), nil},
		{one(5), ints(0, 0, 1142858, never, 1632654, never), ints(0, 0, 1142857, most, 1632652, most), ints(3, 5)},
		// With GateAny 1 can be left, and be ended by the single 1 alone.
		{rules(2, 4, 0, sure(101)), ints(0, 1000000, 1000000, 1000000, 2000000), ints(0, 1000000, 1000000, 1000000, 2000000), nil},
		{rules(2, 3, 0, sure(102)), ints(0, never, 1000000, never), ints(0, most, 1000000, most), ints(1, 3)},
		{rules(2, 3, 2, sure(301)), ints(0, 0, never, 1000000), ints(0, 0, most, 1000000), ints(2)},
		{rules(2, 3, 1, sure(301)), ints(0, 0, never, never), ints(0, 0, most, most), ints(2, 3)},
		{rules(2, 2, 2, sure(102)), ints(0, 0, never), ints(0, 0, most), ints(2)},
		// Who always misses ends nothing.
		{rules(2, 2, 0, throws(101, lands(0, 2, 2))), ints(0, never, never), ints(0, most, most), ints(1, 2)},
		// With one visit in 1000 that wins the number is just the greatest one, with fewer there is none.
		{bust(3), ints(0, 0, most), ints(0, 0, most), nil},
		{bust(2), ints(0, 0, never), ints(0, 0, most), ints(2)},
		{bust(4), ints(0, 0, 750000000), ints(0, 0, 750000000), nil},
		// By rounding, dart by dart, one visit in 1000 needs one millionth more than the greatest number.
		{rules(3000, 4, 1, throws(201, lands(102, 185, 185), lands(120, 2775, 2775), lands(201, 40, 40))), ints(0, 0, 75000000, never, never), ints(0, 0, 75000000, most, 999999975), ints(3, 4)},
		{bust(3000), ints(0, 0, 1000000), ints(0, 0, 1000000), nil},
		{bust(0), ints(0, 0, never), ints(0, 0, most), ints(2)},
		// The single 1 would leave 3, which is not surely ended, but no dart can land there.
		{rules(2, 4, 1, throws(202, lands(101, 0, 1), lands(202, 2, 2))), ints(0, 0, never, never, 1000000), ints(0, 0, most, most, 1000000), ints(2, 3)},
		{rules(2, 4, 1, throws(202, lands(0, 0, 1), lands(101, 0, 1), lands(202, 2, 2))), ints(0, 0, never, never, 1000000), ints(0, 0, most, most, 1000000), ints(2, 3)},
		{rules(2, 4, 1, throws(202, lands(0, 0, 1), lands(101, 0, 0), lands(202, 1, 2))), ints(0, 0, never, never, 1142858), ints(0, 0, most, most, 1000000), ints(2, 3)},
		// Now one can, and two misses after it leave 3.
		{rules(2, 4, 1, throws(202, lands(0, 0, 1), lands(101, 0, 1), lands(202, 1, 2))), ints(0, 0, never, never, never), ints(0, 0, most, most, 1000000), ints(2, 3, 4)},
		// Without misses a dart after it is bust.
		{rules(2, 4, 1, throws(202, lands(101, 0, 1), lands(202, 1, 2))), ints(0, 0, never, never, 2000000), ints(0, 0, most, most, 1000000), ints(2, 3)},
		// One of the aims ends what the other one does not.
		{rules(2, 3, 1, sure(301), sure(201), sure(101)), ints(0, 0, 1000000, 1000000), ints(0, 0, 1000000, 1000000), nil},
	} {
		upper, lower, e := aim.Table(c.r)
		none, f := aim.Never(c.r)
		if !slices.Equal(upper, c.upper) || !slices.Equal(lower, c.lower) || !slices.Equal(none, c.never) || e != api.OK || f != api.OK {
			t.Error(i, upper, lower, none, e, f)
		}
	}
}

// randomNumber returns a number that can be given for a score.
func randomNumber(r *rand.Rand, least bool) int {
	switch r.IntN(4) {
	case 0:
		return some(r, 0, 1, 999999, 1000000, 1000001, most-1, most)
	case 1:
		if !least {
			return never
		}
	}
	return r.IntN(some(r, 10, 3000000, 20000000, most))
}

// P8.2: random tables by the text: each number satisfies the inequality by those of the smaller scores, and none beyond it does.
func TestTableByText(t *testing.T) {
	r := rand.New(rand.NewPCG(1, 2))
	for range 400 {
		l := randomRules(r, 4, 12, 3, 4)
		upper, lower, e := aim.Table(l)
		if e != api.OK || len(upper) != l.Start+1 || len(lower) != l.Start+1 || upper[0] != 0 || lower[0] != 0 {
			t.Fatal(l, upper, lower, e)
		}
		if l.Out != 0 && (upper[1] != 0 || lower[1] != 0) {
			t.Fatal(l, upper, lower)
		}
		for score := lowestByText(l); score <= l.Start; score++ {
			if !inequality(l, upper, false, score) || !inequality(l, lower, true, score) || upper[score] < 1000000 || upper[score] > most && upper[score] != never || lower[score] < 0 || lower[score] > most {
				t.Fatal(l, upper, lower, score)
			}
			below, above := min(upper[score], most+1)-1, lower[score]+1
			for _, number := range []int{below, below - 1, 1000000, 1000000 + r.IntN(2000000), 1000000 + r.IntN(most-1000000)} {
				if number >= 1000000 && number <= below && inequality(l, changed(upper, score, number), false, score) {
					t.Fatal(l, upper, score, number)
				}
			}
			for _, number := range []int{above, above + 1, most, above + r.IntN(2000000), r.IntN(most)} {
				if number >= above && number <= most && inequality(l, changed(lower, score, number), true, score) {
					t.Fatal(l, lower, score, number)
				}
			}
		}
		var none []int
		for score, number := range upper {
			if number == never {
				none = append(none, score)
			}
		}
		if got, e := aim.Never(l); !slices.Equal(got, none) || e != api.OK {
			t.Fatal(l, upper, got, e)
		}
	}
}

// P8.2: whoever can leave less has the same numbers for all that is left then.
func TestSmallerStart(t *testing.T) {
	r := rand.New(rand.NewPCG(3, 4))
	for range 200 {
		l := randomRules(r, 4, 20, 3, 5)
		upper, lower, _ := aim.Table(l)
		for l.Start = 2; l.Start < len(upper); l.Start++ {
			u, w, e := aim.Table(l)
			if !slices.Equal(u, upper[:l.Start+1]) || !slices.Equal(w, lower[:l.Start+1]) || e != api.OK {
				t.Fatal(l, u, w, e)
			}
		}
	}
}

// P8.6: tables that are given, with and without an error.
func TestProves(t *testing.T) {
	any := rules(2, 4, 0, sure(101))
	for i, c := range []struct {
		r     api.AimRules
		table []int
		least bool
		at    int
		e     api.Errno
	}{
		{one(2), ints(0, 0, 1142858), false, 0, api.OK}, {one(2), ints(0, 0, 1142857), false, 2, api.OK}, {one(2), ints(0, 0, 1142859), false, 0, api.OK}, {one(2), ints(0, 0, most), false, 0, api.OK}, {one(2), ints(0, 0, never), false, 0, api.OK}, {one(2), ints(0, 0, 0), false, 2, api.OK},
		{one(2), ints(0, 0, 1142857), true, 0, api.OK}, {one(2), ints(0, 0, 1142858), true, 2, api.OK}, {one(2), ints(0, 0, 1142856), true, 0, api.OK}, {one(2), ints(0, 0, 0), true, 0, api.OK}, {one(2), ints(0, 0, most), true, 2, api.OK},
		// A smaller number of a smaller score that does not hold helps a greater one.
		{one(4), ints(0, 0, 1142858, never, 1632654), false, 0, api.OK}, {one(4), ints(0, 0, 1142858, never, 1632653), false, 4, api.OK}, {one(4), ints(0, 0, 0, never, 1632653), false, 2, api.OK}, {one(4), ints(0, 0, 1142858, most, 1632654), false, 3, api.OK}, {one(4), ints(0, 0, never, never, most), false, 4, api.OK}, {one(4), ints(0, 0, never, 0, never), false, 3, api.OK},
		{one(4), ints(0, 0, 1142857, most, 1632652), true, 0, api.OK}, {one(4), ints(0, 0, 1142857, most, 1632653), true, 4, api.OK}, {one(4), ints(0, 0, 0, most, 1632652), true, 4, api.OK}, {one(4), ints(0, 0, 0, 0, 1142857), true, 0, api.OK}, {one(4), ints(0, 0, 1142858, most, most), true, 2, api.OK},
		// An upper number can be below Whole, and no inequality holds for it then.
		{any, ints(0, 1000000, 1000000, 1000000, 2000000), false, 0, api.OK}, {any, ints(0, 999999, 1000000, 1000000, 2000000), false, 1, api.OK}, {any, ints(0, 1000000, 1000000, 1000000, 1999999), false, 4, api.OK}, {any, ints(0, 1000000, 1000000, 1000000, 2000000), true, 0, api.OK}, {any, ints(0, 1000000, 1000001, 1000000, 2000000), true, 2, api.OK}, {any, ints(0, 999999, 1000000, 1000000, 2000000), true, 4, api.OK},
		// Numbers of a table, and the ones below lowest.
		{one(2), nil, false, 0, api.ErrForm}, {one(2), nil, true, 0, api.ErrForm}, {one(2), ints(0), true, 0, api.ErrForm}, {one(2), ints(0, 0), false, 0, api.ErrForm}, {one(2), ints(0, 0, 1142858, never), false, 0, api.ErrForm}, {one(2), ints(1, 0, 1142858), false, 0, api.ErrForm}, {one(2), ints(0, 1, 1142858), false, 0, api.ErrForm}, {one(2), ints(0, -1, 1142858), true, 0, api.ErrForm}, {one(2), ints(math.MaxInt, 0, 1142858), false, 0, api.ErrForm}, {one(2), ints(math.MinInt, 0, 1142858), false, 0, api.ErrForm}, {any, ints(1, 1000000, 1000000, 1000000, 2000000), false, 0, api.ErrForm}, {any, ints(0, 1000000, 1000000, 1000000), false, 0, api.ErrForm}, {one(2), ints(0, never, never), false, 0, api.ErrForm},
		{one(2), ints(0, 0, -1), false, 0, api.ErrArg}, {one(2), ints(0, 0, -1), true, 0, api.ErrArg}, {one(2), ints(0, 0, most+1), false, 0, api.ErrArg}, {one(2), ints(0, 0, most+1), true, 0, api.ErrArg}, {one(2), ints(0, 0, never), true, 0, api.ErrArg}, {one(2), ints(0, 0, never-1), false, 0, api.ErrArg}, {one(2), ints(0, 0, never+1), false, 0, api.ErrArg}, {one(2), ints(0, 0, math.MinInt), false, 0, api.ErrArg}, {one(2), ints(0, 0, math.MaxInt), true, 0, api.ErrArg}, {any, ints(0, -1, 1000000, 1000000, 2000000), false, 0, api.ErrArg},
		// An error comes before an inequality that does not hold, and a wrong form before a wrong number.
		{one(4), ints(0, 0, 0, 0, -1), false, 0, api.ErrArg}, {one(4), ints(0, 0, most, never, 0), true, 0, api.ErrArg}, {one(4), ints(0, 1, -1, -1, -1), false, 0, api.ErrForm}, {one(2), ints(0, 0, -1, -1), false, 0, api.ErrForm}, {one(3), ints(0, 0, -1), true, 0, api.ErrForm},
	} {
		if at, e := aim.Proves(c.r, c.table, c.least); at != c.at || e != c.e {
			t.Error(i, at, e)
		}
	}
}

// P8.6: random tables, most of which are near to what is true, by the text.
func TestProvesByText(t *testing.T) {
	r := rand.New(rand.NewPCG(5, 6))
	found := map[bool]int{}
	for range 3000 {
		l := randomRules(r, 4, 9, 3, 4)
		upper, lower, _ := aim.Table(l)
		for _, least := range []bool{false, true} {
			table := slices.Clone(map[bool][]int{false: upper, true: lower}[least])
			for score := lowestByText(l); score <= l.Start; score++ {
				switch {
				case r.IntN(4) == 0:
					table[score] = randomNumber(r, least)
				case table[score] < most:
					table[score] = max(0, table[score]+some(r, 0, 0, -1, 1, 100000, -100000))
				}
				if table[score] != never {
					table[score] = min(table[score], most)
				}
			}
			want := provesByText(l, table, least)
			found[want == 0]++
			if at, e := aim.Proves(l, table, least); at != want || e != api.OK {
				t.Fatal(l, table, least, at, e, want)
			}
		}
	}
	if found[true] < 100 || found[false] < 100 {
		t.Error(found)
	}
}
