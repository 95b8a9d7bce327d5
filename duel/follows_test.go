package duel_test

import (
	"math/rand/v2"
	"slices"
	"testing"

	"oche/api"
	"oche/duel"
)

// The chapter's examples.
func TestExamples(t *testing.T) {
	for i, c := range []struct {
		r         api.DuelRules
		low, high [][]int
	}{
		{example(), rows(ints(0, 0, 875000)), rows(ints(0, 0, 875000))},
		{example(one(500000)), rows(ints(0, 0, 929687), ints(0, 0, 875000)), rows(ints(0, 0, 929688), ints(0, 0, 875000))},
		{example(to(0, 500000)), rows(ints(0, 0, 929687), ints(0, 0, 875000)), rows(ints(0, 0, 984375), ints(0, 0, 875000))},
	} {
		if low, high, e := duel.Table(c.r); !same(low, c.low) || !same(high, c.high) || e != api.OK {
			t.Error(i, low, high, e)
		}
	}
	// The values dart by dart, from the last one.
	for i, want := range spans(to(718750, 937500), to(859375, 968750), to(929687, 984375)) {
		if odds, e := duel.Odds(example(to(0, 500000)), at(0, 2, 2, i+1)); !slices.Equal(odds, spans(want)) || e != api.OK {
			t.Error(i, odds, e)
		}
	}
	if first, second, e := duel.Toss(example(one(500000))); first != to(929687, 929688) || second != one(437500) || e != api.OK {
		t.Error(first, second, e)
	}
}

// leg is how likely a leg is won, where choose picks what a dart does of what it can do for each aim, and ends picks what the opponent does.
type leg struct {
	r      api.DuelRules
	choose func(p api.DuelPosition, chances [][]float64) float64
	ends   func(s api.Span) int
	done   map[api.DuelPosition]float64
	waits  map[api.DuelPosition]float64
}

// newLeg returns a leg of which nothing is found yet.
func newLeg(r api.DuelRules, choose func(api.DuelPosition, [][]float64) float64, ends func(api.Span) int) leg {
	return leg{r, choose, ends, map[api.DuelPosition]float64{}, map[api.DuelPosition]float64{}}
}

// wait returns how likely the leg is won after a visit by which so much is left.
func (l leg) wait(round, left int) float64 {
	if round+1 == len(l.r.Ends) {
		return 0
	}
	next := at(round+1, left, left, 3)
	if _, ok := l.waits[next]; !ok {
		l.waits[next] = l.chance(next) * float64(whole-l.ends(l.r.Ends[round])) / whole
	}
	return l.waits[next]
}

// chance returns how likely the leg is won at a position.
func (l leg) chance(p api.DuelPosition) float64 {
	if p.Left == 0 {
		return 1
	}
	if p.Darts == 0 {
		return l.wait(p.Round, p.Left)
	}
	if _, ok := l.done[p]; !ok {
		var all [][]float64
		for _, a := range l.r.Law.Aims {
			all = append(all, l.truths(a, p))
		}
		l.done[p] = l.choose(p, all)
	}
	return l.done[p]
}

// truths returns how likely the leg is won in each truth of an aim at a position.
func (l leg) truths(a api.ThrowAim, p api.DuelPosition) []float64 {
	var next, truths []float64
	for _, b := range a.Beds {
		left, bust := dartByText(l.r.Out, p.Left, b.Bed)
		if bust {
			next = append(next, l.wait(p.Round, p.Start))
		} else {
			next = append(next, l.chance(at(p.Round, p.Start, left, p.Darts-1)))
		}
	}
	for _, truth := range truthsByText(a, l.r.Law.Den) {
		sum := 0.0
		for i, n := range truth {
			sum += float64(n) * next[i]
		}
		truths = append(truths, sum/float64(l.r.Law.Den))
	}
	return truths
}

// often and seldom pick the greatest and the least number of the opponent's visits that end the leg, and anyhow any one.
func often(s api.Span) int { return s.High }

func seldom(s api.Span) int { return s.Low }

func anyhow(r *rand.Rand) func(api.Span) int {
	return func(s api.Span) int { return s.Low + r.IntN(s.High-s.Low+1) }
}

// P9.8: whoever aims as Aim says wins with no smaller chance than the low number, whatever is true of each dart and each visit of the opponent.
func TestAtLeast(t *testing.T) {
	r := rand.New(rand.NewPCG(9, 10))
	positive := 0
	for range 100 {
		l := randomRules(r, 4, 7, 5, 3, 4)
		low, _, _ := duel.Table(l)
		aims := map[api.DuelPosition]int{}
		for p := range positions(l) {
			aims[p], _, _ = duel.Aim(l, p)
		}
		worst := func(p api.DuelPosition, chances [][]float64) float64 { return slices.Min(chances[aims[p]]) }
		any := func(p api.DuelPosition, chances [][]float64) float64 { return some(r, chances[aims[p]]...) }
		for _, game := range []leg{newLeg(l, worst, often), newLeg(l, any, anyhow(r)), newLeg(l, any, anyhow(r)), newLeg(l, worst, seldom)} {
			for round, score := range scores(l) {
				if low[round][score] > 0 {
					positive++
				}
				if chance := game.chance(at(round, score, score, 3)); chance*whole < float64(low[round][score])-0.001 {
					t.Fatal(l, low, round, score, chance)
				}
			}
		}
	}
	if positive < 1000 {
		t.Error(positive)
	}
}

// P9.9: nobody wins with a greater chance than the high number, wherever the darts are aimed, and whatever is true.
func TestAtMost(t *testing.T) {
	r := rand.New(rand.NewPCG(11, 12))
	less := 0
	best := func(p api.DuelPosition, chances [][]float64) float64 { return slices.Max(slices.Concat(chances...)) }
	any := func(p api.DuelPosition, chances [][]float64) float64 { return some(r, slices.Concat(chances...)...) }
	for range 200 {
		l := randomRules(r, 4, 8, 5, 3, 4)
		_, high, _ := duel.Table(l)
		for _, game := range []leg{newLeg(l, best, seldom), newLeg(l, best, anyhow(r)), newLeg(l, any, anyhow(r))} {
			for round, score := range scores(l) {
				if high[round][score] < whole {
					less++
				}
				if chance := game.chance(at(round, score, score, 3)); chance*whole > float64(high[round][score])+0.001 {
					t.Fatal(l, high, round, score, chance)
				}
			}
		}
	}
	if less < 1000 {
		t.Error(less)
	}
}

// P9.10: both tables are proved, and none with a number that says more.
func TestProof(t *testing.T) {
	r := rand.New(rand.NewPCG(13, 14))
	for range 200 {
		l := randomRules(r, 50, 12, 5, 4, 6)
		low, high, _ := duel.Table(l)
		for most, table := range map[bool][][]int{false: low, true: high} {
			if ok, round, score, e := duel.Proves(l, table, most); !ok || round != 0 || score != 0 || e != api.OK {
				t.Fatal(l, table, most, ok, round, score, e)
			}
		}
		for round, score := range scores(l) {
			if number := low[round][score]; number < whole {
				if ok, k, s, e := duel.Proves(l, changed(low, round, score, number+1), false); ok || k != round || s != score || e != api.OK {
					t.Fatal(l, low, round, score, ok, k, s, e)
				}
			}
			if number := high[round][score]; number > 0 {
				if ok, k, s, e := duel.Proves(l, changed(high, round, score, number-1), true); ok || k != round || s != score || e != api.OK {
					t.Fatal(l, high, round, score, ok, k, s, e)
				}
			}
		}
	}
}

// P9.10: no number of a low table that is accepted is above that of the low table, and none of a high one below.
func TestAcceptedTables(t *testing.T) {
	r := rand.New(rand.NewPCG(15, 16))
	for range 200 {
		l := randomRules(r, 4, 9, 5, 3, 4)
		low, high, _ := duel.Table(l)
		for _, most := range []bool{false, true} {
			given := copied(map[bool][][]int{false: low, true: high}[most])
			for round := len(given) - 1; round >= 0; round-- {
				for score := lowestByText(l); score <= l.Start; score++ {
					value := byText(l, given, most).value(at(round, score, score, 3))
					if most {
						given[round][score] = some(r, value, value, value+r.IntN(whole-value+1))
					} else {
						given[round][score] = some(r, value, value, r.IntN(value+1))
					}
				}
			}
			if ok, round, score, e := duel.Proves(l, given, most); !ok || e != api.OK {
				t.Fatal(l, given, most, round, score, e)
			}
			for round, score := range scores(l) {
				if number := given[round][score]; most && number < high[round][score] || !most && number > low[round][score] {
					t.Fatal(l, given, most, low, high, round, score)
				}
			}
		}
	}
}

// P9.11: the listed aim may be the best one, no aim has a greater Low, and no Low is above the High of the same aim.
func TestNoOtherAim(t *testing.T) {
	r := rand.New(rand.NewPCG(17, 18))
	for range 30 {
		l := randomRules(r, 30, 7, 4, 4, 5)
		for p := range positions(l) {
			best, low, _ := duel.Aim(l, p)
			odds, _ := duel.Odds(l, p)
			may, e := duel.May(l, p)
			if !slices.Contains(may, best) || !slices.IsSorted(may) || odds[best].Low != low || e != api.OK {
				t.Fatal(l, p, best, low, odds, may, e)
			}
			for _, s := range odds {
				if s.Low > low || s.Low > s.High || s.Low < 0 || s.High > whole {
					t.Fatal(l, p, best, low, odds)
				}
			}
		}
	}
}

// narrower returns rules whose spans are some of those of the rules.
func narrower(r *rand.Rand, l api.DuelRules) api.DuelRules {
	l = clone(l)
	for _, a := range l.Law.Aims {
		truth := some(r, truthsByText(a, l.Law.Den)...)
		for i := range a.Beds {
			narrow(r, &a.Beds[i].Chance, truth[i])
		}
	}
	for i := range l.Ends {
		narrow(r, &l.Ends[i], anyhow(r)(l.Ends[i]))
	}
	return l
}

// narrow makes a span narrower that keeps a number.
func narrow(r *rand.Rand, s *api.Span, keep int) {
	*s = to(some(r, s.Low, keep-r.IntN(keep-s.Low+1)), some(r, s.High, keep+r.IntN(s.High-keep+1)))
}

// weaker returns rules with an opponent who ends the leg less often.
func weaker(r *rand.Rand, l api.DuelRules) api.DuelRules {
	l = clone(l)
	for i, s := range l.Ends[:len(l.Ends)-1] {
		low := some(r, s.Low, r.IntN(s.Low+1))
		l.Ends[i] = to(low, some(r, s.High, low+r.IntN(s.High-low+1)))
	}
	return l
}

// P9.12: what narrower spans, an aim more and a weaker opponent do to the numbers.
func TestKnownBetter(t *testing.T) {
	r := rand.New(rand.NewPCG(19, 20))
	for range 400 {
		l := randomRules(r, 8, 12, 5, 3, 4)
		more := clone(l)
		more.Law.Aims = slices.Insert(more.Law.Aims, r.IntN(len(l.Law.Aims)+1), randomAim(r, l.Law.Den, 4))
		low, high, _ := duel.Table(l)
		lows, highs, e := duel.Table(narrower(r, l))
		moreLows, moreHighs, f := duel.Table(more)
		weakLows, weakHighs, g := duel.Table(weaker(r, l))
		if e != api.OK || f != api.OK || g != api.OK {
			t.Fatal(l, e, f, g)
		}
		for round, score := range scores(l) {
			was := to(low[round][score], high[round][score])
			if lows[round][score] < was.Low || highs[round][score] > was.High {
				t.Fatal(l, was, lows, highs)
			}
			if moreLows[round][score] < was.Low || moreHighs[round][score] < was.High {
				t.Fatal(l, more, was, moreLows, moreHighs)
			}
			if weakLows[round][score] < was.Low || weakHighs[round][score] < was.High {
				t.Fatal(l, was, weakLows, weakHighs)
			}
		}
	}
}

// P9.13: to throw first is never worse, but for what rounding does.
func TestWhoThrowsFirst(t *testing.T) {
	r := rand.New(rand.NewPCG(21, 22))
	waits := 0
	for range 2000 {
		l := randomRules(r, 20, 12, 6, 3, 4)
		first, second, e := duel.Toss(l)
		if less := 4 * len(l.Ends); first.Low < second.Low-less || first.High < second.High-less || e != api.OK {
			t.Fatal(l, first, second, e)
		}
		if second.Low > 0 {
			waits++
		}
	}
	if waits < 100 {
		t.Error(waits)
	}
}

// R3: nil and empty lists are the same.
func TestNilAndEmpty(t *testing.T) {
	for _, aims := range [][]api.ThrowAim{nil, {}, {throws(101)}, {throws(101, []api.ThrowBed{}...)}} {
		if e := duel.Check(rules(2, 1, nil, aims...)); e != api.ErrArg {
			t.Error(aims, e)
		}
	}
	for _, table := range [][][]int{nil, {}, {nil}, {{}}} {
		for _, most := range []bool{false, true} {
			if ok, round, score, e := duel.Proves(example(), table, most); ok || round != 0 || score != 0 || e != api.ErrForm {
				t.Error(table, most, ok, round, score, e)
			}
		}
	}
}

// everything returns all results for rules, at a position and for a table.
func everything(r api.DuelRules, p api.DuelPosition, table [][]int) []any {
	low, high, e := duel.Table(r)
	odds, f := duel.Odds(r, p)
	best, number, g := duel.Aim(r, p)
	may, h := duel.May(r, p)
	ok, round, score, i := duel.Proves(r, table, false)
	ok2, round2, score2, j := duel.Proves(r, table, true)
	first, second, k := duel.Toss(r)
	return []any{low, high, e, odds, f, best, number, g, may, h, ok, round, score, i, ok2, round2, score2, j, first, second, k, duel.Check(r)}
}

// P9.2, R4: no argument is changed, and no result is changed by what is done with an argument or another result; no two lists share memory.
func TestMemory(t *testing.T) {
	r := rand.New(rand.NewPCG(23, 24))
	for range 100 {
		l := randomRules(r, 5, 6, 4, 3, 4)
		low, high, _ := duel.Table(l)
		p, table := at(0, l.Start, l.Start, 3), copied(some(r, low, high))
		kept, keptTable := clone(l), copied(table)
		first := everything(l, p, table)
		if !same(l, kept) || !same(table, keptTable) {
			t.Fatal(l, kept, table, keptTable)
		}
		want := everything(clone(kept), p, keptTable)
		for _, a := range l.Law.Aims {
			clear(a.Beds)
		}
		clear(l.Law.Aims)
		clear(l.Ends)
		clear(table)
		if !same(first, want) {
			t.Fatal(kept, first, want)
		}
		spoil(t, first)
		if again := everything(kept, p, keptTable); !same(again, want) {
			t.Fatal(kept, again, want)
		}
	}
}

// spoil overwrites all lists of results, one after another: none of them may have been overwritten by another one.
func spoil(t *testing.T, results []any) {
	for _, result := range results {
		switch x := result.(type) {
		case [][]int:
			for _, numbers := range x {
				if slices.Contains(numbers[:cap(numbers)], -7) {
					t.Fatal(results)
				}
				for i := range numbers[:cap(numbers)] {
					numbers[:cap(numbers)][i] = -7
				}
			}
		case []int:
			clear(x[:cap(x)])
		case []api.Span:
			clear(x[:cap(x)])
		}
	}
}

// spoiled returns rules, a position and a table of which something is changed to any number.
func spoiled(r *rand.Rand, l api.DuelRules, p api.DuelPosition, table [][]int) (api.DuelRules, api.DuelPosition, [][]int) {
	n := some(r, numbers()...)
	switch r.IntN(8) {
	case 0:
		l.Start = n
	case 1:
		l.Out = api.Gate(n)
	case 2:
		l.Law.Den = n
	case 3:
		a := some(r, l.Law.Aims...)
		a.Beds[r.IntN(len(a.Beds))] = lands(api.Bed(n), some(r, numbers()...), some(r, numbers()...))
	case 4:
		p = some(r, at(n, p.Start, p.Left, p.Darts), at(p.Round, n, p.Left, p.Darts), at(p.Round, p.Start, n, p.Darts), at(p.Round, p.Start, p.Left, n))
	case 5:
		l.Ends = some(r, l.Ends[1:], l.Ends[:len(l.Ends)-1], append(slices.Clip(l.Ends), one(n)), slices.Repeat(l.Ends, 4))
	case 6:
		l.Ends[r.IntN(len(l.Ends))] = to(n, some(r, numbers()...))
	default:
		round := r.IntN(len(table))
		if len(table[round]) > 0 {
			table = some(r, changed(table, round, r.IntN(len(table[round])), n), append(slices.Clip(table), ints(n)), append(slices.Clip(table[:round]), nil))
		}
	}
	return l, p, table
}

// P1, R2: no arguments make a function panic, and with an error there is no other result.
func TestAnyArguments(t *testing.T) {
	r := rand.New(rand.NewPCG(25, 26))
	for range 3000 {
		l := randomRules(r, 4, 9, 4, 3, 4)
		table, _, _ := duel.Table(l)
		p := at(r.IntN(len(l.Ends)), l.Start, 2, 1+r.IntN(3))
		for range r.IntN(3) {
			if len(l.Ends) > 0 && len(table) > 0 {
				l, p, table = spoiled(r, l, p, table)
			}
		}
		var results []any
		for _, result := range everything(l, p, table) {
			e, ok := result.(api.Errno)
			if !ok {
				results = append(results, result)
				continue
			}
			// The results of each call come before its error.
			if e != api.OK && slices.ContainsFunc(results, something) {
				t.Fatal(l, p, table, results, e)
			}
			results = nil
		}
	}
}

// something reports whether a result is not its zero value, nor an empty list.
func something(result any) bool {
	switch x := result.(type) {
	case [][]int:
		return len(x) > 0
	case []int:
		return len(x) > 0
	case []api.Span:
		return len(x) > 0
	case bool:
		return x
	case api.Span:
		return x != one(0)
	}
	return result != 0
}

// largest returns rules of the greatest law, with any beds from which something can be ended.
func largest() api.DuelRules {
	r := rand.New(rand.NewPCG(27, 28))
	l := rules(40, 1, slices.Repeat(spans(to(50000, 150000)), 9))
	l.Law.Den = 3000
	for i := range 20 {
		double := api.Bed(201 + i)
		where := map[api.Bed]bool{0: true, double: true}
		for len(where) < 10 {
			where[api.Bed(100*(1+r.IntN(3))+1+r.IntN(20))] = true
		}
		a := throws(double)
		for bed := api.Miss; bed < 500; bed++ {
			if where[bed] {
				low := 100 + r.IntN(150)
				a.Beds = append(a.Beds, lands(bed, low, low+100+r.IntN(200)))
			}
		}
		l.Law.Aims = append(l.Law.Aims, a)
	}
	return l
}

// All limits at once: the tables of the greatest law are found in seconds, and are proved.
func TestLargest(t *testing.T) {
	l := largest()
	low, high, e := duel.Table(l)
	if len(low) != 10 || len(high) != 10 || e != api.OK {
		t.Fatal(low, high, e)
	}
	for most, table := range map[bool][][]int{false: low, true: high} {
		if ok, round, score, e := duel.Proves(l, table, most); !ok || e != api.OK {
			t.Error(most, round, score, e)
		}
		worse := changed(table, 9, 40, table[9][40]+map[bool]int{false: 1, true: -1}[most])
		if ok, round, score, e := duel.Proves(l, worse, most); ok || round != 9 || score != 40 || e != api.OK {
			t.Error(most, ok, round, score, e)
		}
	}
	first, second, e := duel.Toss(l)
	if first != to(low[0][40], high[0][40]) || second.Low >= first.Low || second.High >= first.High || e != api.OK {
		t.Error(first, second, e)
	}
}
