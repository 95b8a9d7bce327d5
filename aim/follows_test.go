package aim_test

import (
	"math"
	"math/rand/v2"
	"slices"
	"testing"

	"oche/aim"
	"oche/api"
)

// The chapter's examples.
func TestExamples(t *testing.T) {
	third := rules(2, 2, 1, throws(201, lands(0, 0, 1), lands(101, 0, 1), lands(201, 1, 1)))
	for i, c := range []struct {
		r            api.AimRules
		upper, lower []int
	}{
		{one(2), ints(0, 0, 1142858), ints(0, 0, 1142857)},
		{one(3), ints(0, 0, 1142858, never), ints(0, 0, 1142857, most)},
		{third, ints(0, 0, 2000000), ints(0, 0, 1142857)},
	} {
		if upper, lower, e := aim.Table(c.r); !slices.Equal(upper, c.upper) || !slices.Equal(lower, c.lower) || e != api.OK {
			t.Error(i, upper, lower, e)
		}
	}
	// Half of the number, rounded up dart by dart.
	for darts, want := range []int{1: 571429, 2: 285715, 3: 142858} {
		if darts == 0 {
			continue
		}
		if best, worst, e := aim.Aim(one(2), place(2, 2, darts)); best != 0 || worst != want || e != api.OK {
			t.Error(darts, best, worst, e)
		}
	}
}

// season counts the visits that are expected, of the next ones, for each score, where choose picks what a dart does of what it can do.
type season struct {
	r      api.AimRules
	choose func(p api.AimPosition, expected [][]float64) float64
	counts []float64
}

// play returns what is expected with one visit more.
func (s season) play() []float64 {
	more := make([]float64, len(s.counts))
	for score := lowestByText(s.r); score < len(more); score++ {
		more[score] = 1 + s.expected(place(score, score, 3), map[api.AimPosition]float64{})
	}
	return more
}

// expected returns how many visits are expected after this one, at a position of it.
func (s season) expected(p api.AimPosition, done map[api.AimPosition]float64) float64 {
	if p.Left == 0 {
		return 0
	}
	if p.Darts == 0 {
		return s.counts[p.Left]
	}
	if _, ok := done[p]; !ok {
		var all [][]float64
		for _, a := range s.r.Law.Aims {
			var next []float64
			for _, b := range a.Beds {
				after, bust := dartByText(s.r.Out, p.Left, b.Bed)
				if bust {
					next = append(next, s.counts[p.Start])
				} else {
					next = append(next, s.expected(place(p.Start, after, p.Darts-1), done))
				}
			}
			var truths []float64
			for _, truth := range truthsByText(a, s.r.Law.Den) {
				sum := 0.0
				for i, n := range truth {
					if n > 0 {
						sum += float64(n) * next[i]
					}
				}
				truths = append(truths, sum/float64(s.r.Law.Den))
			}
			all = append(all, truths)
		}
		done[p] = s.choose(p, all)
	}
	return done[p]
}

// P8.8: whoever aims as Aim says needs no more visits than the upper number, of any number of visits, whatever is true of each dart.
func TestEnough(t *testing.T) {
	r := rand.New(rand.NewPCG(9, 10))
	found := 0
	for range 120 {
		l := randomRules(r, 4, 7, 3, 4)
		upper, _, _ := aim.Table(l)
		aims := map[api.AimPosition]int{}
		for p := range positions(l) {
			if best, _, e := aim.Aim(l, p); e == api.OK {
				aims[p] = best
			}
		}
		worst := func(p api.AimPosition, expected [][]float64) float64 {
			if best, ok := aims[p]; ok {
				return slices.Max(expected[best])
			}
			return math.Inf(1)
		}
		any := func(p api.AimPosition, expected [][]float64) float64 {
			if best, ok := aims[p]; ok {
				return some(r, expected[best]...)
			}
			return math.Inf(1)
		}
		for _, choose := range []func(api.AimPosition, [][]float64) float64{worst, any} {
			s := season{l, choose, make([]float64, l.Start+1)}
			for range 30 {
				s.counts = s.play()
				for score := lowestByText(l); score <= l.Start; score++ {
					if upper[score] == never {
						continue
					}
					found++
					if s.counts[score]*1000000 > float64(upper[score])+0.01 {
						t.Fatal(l, upper, score, s.counts)
					}
				}
			}
		}
	}
	if found < 1000 {
		t.Error(found)
	}
}

// P8.9: no fewer visits are needed than the lower number, wherever the darts are aimed, and whatever is true; it is at most the upper one.
func TestNeverSooner(t *testing.T) {
	r := rand.New(rand.NewPCG(11, 12))
	best := func(p api.AimPosition, expected [][]float64) float64 {
		least := math.Inf(1)
		for _, truths := range expected {
			least = min(least, slices.Min(truths))
		}
		return least
	}
	for range 40 {
		l := randomRules(r, 3, 6, 2, 4)
		upper, lower, _ := aim.Table(l)
		s := season{l, best, make([]float64, l.Start+1)}
		for range 1100 {
			s.counts = s.play()
		}
		for score := lowestByText(l); score <= l.Start; score++ {
			if s.counts[score]*1000000 < float64(lower[score])-0.01 || lower[score] > upper[score] {
				t.Fatal(l, lower, upper, score, s.counts)
			}
		}
	}
}

// P8.10: both tables are proved, and none with a number that says more.
func TestProof(t *testing.T) {
	r := rand.New(rand.NewPCG(13, 14))
	for range 300 {
		l := randomRules(r, 50, 20, 4, 6)
		upper, lower, _ := aim.Table(l)
		for least, table := range map[bool][]int{false: upper, true: lower} {
			if at, e := aim.Proves(l, table, least); at != 0 || e != api.OK {
				t.Fatal(l, table, least, at, e)
			}
		}
		for score := lowestByText(l); score <= l.Start; score++ {
			if upper[score] != never {
				if at, e := aim.Proves(l, changed(upper, score, upper[score]-1), false); at != score || e != api.OK {
					t.Fatal(l, upper, score, at, e)
				}
			}
			if lower[score] < most {
				if at, e := aim.Proves(l, changed(lower, score, lower[score]+1), true); at != score || e != api.OK {
					t.Fatal(l, lower, score, at, e)
				}
			}
		}
	}
}

// P8.11: the listed aim may be the best one, and no aim has a smaller High.
func TestNoOtherAim(t *testing.T) {
	r := rand.New(rand.NewPCG(15, 16))
	for range 40 {
		l := randomRules(r, 30, 9, 4, 5)
		for p := range positions(l) {
			best, worst, e := aim.Aim(l, p)
			costs, _ := aim.Costs(l, p)
			may, _ := aim.May(l, p)
			if len(may) == 0 || !slices.IsSorted(may) {
				t.Fatal(l, p, may)
			}
			for i, c := range costs {
				if c.Low > c.High || e == api.OK && c.High < worst || e == api.ErrNone && c.High != never {
					t.Fatal(l, p, costs, i, e)
				}
			}
			if e == api.OK && (!slices.Contains(may, best) || costs[best].High != worst) {
				t.Fatal(l, p, best, worst, costs, may)
			}
		}
	}
}

// narrower returns rules whose spans are some of those of the rules.
func narrower(r *rand.Rand, l api.AimRules) api.AimRules {
	l = clone(l)
	for _, a := range l.Law.Aims {
		truth := some(r, truthsByText(a, l.Law.Den)...)
		for i := range a.Beds {
			c := &a.Beds[i].Chance
			c.Low, c.High = c.Low+r.IntN(truth[i]-c.Low+1), c.High-r.IntN(c.High-truth[i]+1)
		}
	}
	return l
}

// P8.12: with narrower spans no upper number is greater, and no lower one smaller; with an aim more no upper number is greater.
func TestKnownBetter(t *testing.T) {
	r := rand.New(rand.NewPCG(17, 18))
	for range 400 {
		l := randomRules(r, 8, 15, 3, 4)
		less := narrower(r, l)
		more := clone(l)
		more.Law.Aims = slices.Insert(more.Law.Aims, r.IntN(len(l.Law.Aims)+1), randomAim(r, l.Law.Den, 4))
		upper, lower, _ := aim.Table(l)
		u, w, e := aim.Table(less)
		m, _, f := aim.Table(more)
		if e != api.OK || f != api.OK {
			t.Fatal(l, less, more, e, f)
		}
		for score := range upper {
			if u[score] > upper[score] || w[score] < lower[score] || m[score] > upper[score] {
				t.Fatal(l, less, more, upper, lower, u, w, m)
			}
		}
	}
}

// R3: nil and empty lists are the same.
func TestNilAndEmpty(t *testing.T) {
	for _, l := range [][]api.ThrowAim{nil, {}, {throws(101)}, {throws(101, []api.ThrowBed{}...)}} {
		if e := aim.Check(rules(2, 2, 1, l...)); e != api.ErrArg {
			t.Error(l, e)
		}
	}
	for _, table := range [][]int{nil, {}} {
		for _, least := range []bool{false, true} {
			if at, e := aim.Proves(one(2), table, least); at != 0 || e != api.ErrForm {
				t.Error(table, least, at, e)
			}
		}
	}
}

// everything returns all results for rules, at a position and for a table.
func everything(r api.AimRules, p api.AimPosition, table []int) []any {
	upper, lower, e := aim.Table(r)
	best, worst, f := aim.Aim(r, p)
	costs, g := aim.Costs(r, p)
	may, h := aim.May(r, p)
	at, i := aim.Proves(r, table, false)
	at2, j := aim.Proves(r, table, true)
	none, k := aim.Never(r)
	return []any{upper, lower, e, best, worst, f, costs, g, may, h, at, i, at2, j, none, k, aim.Check(r)}
}

// R4: no argument is changed, and no result is changed by what is done with an argument or another result.
func TestMemory(t *testing.T) {
	r := rand.New(rand.NewPCG(19, 20))
	for range 100 {
		l := randomRules(r, 5, 6, 3, 4)
		upper, lower, _ := aim.Table(l)
		p, table := place(l.Start, l.Start, 3), slices.Clone(some(r, upper, lower))
		kept, keptTable := clone(l), slices.Clone(table)
		first := everything(l, p, table)
		if !same(l, kept) || !slices.Equal(table, keptTable) {
			t.Fatal(l, kept, table, keptTable)
		}
		want := everything(clone(kept), p, keptTable)
		for _, a := range l.Law.Aims {
			clear(a.Beds)
		}
		clear(l.Law.Aims)
		clear(table)
		if !same(first, want) {
			t.Fatal(kept, first, want)
		}
		for _, result := range first {
			switch x := result.(type) {
			case []int:
				clear(x[:cap(x)])
			case []api.Span:
				clear(x[:cap(x)])
			}
		}
		if again := everything(kept, p, keptTable); !same(again, want) {
			t.Fatal(kept, again, want)
		}
	}
}

// P1, R2: no arguments make a function panic, and with an error there is no other result.
func TestAnyArguments(t *testing.T) {
	r := rand.New(rand.NewPCG(21, 22))
	number := func() int { return some(r, numbers()...) }
	for range 3000 {
		l := randomRules(r, 4, 9, 3, 4)
		table, _, _ := aim.Table(l)
		p := place(l.Start, 2, 1+r.IntN(3))
		for range r.IntN(3) {
			switch r.IntN(6) {
			case 0:
				l.Start = number()
			case 1:
				l.Out = api.Gate(number())
			case 2:
				l.Law.Den = number()
			case 3:
				a := some(r, l.Law.Aims...)
				a.Beds[r.IntN(len(a.Beds))] = lands(api.Bed(number()), number(), number())
			case 4:
				p = some(r, place(number(), p.Left, p.Darts), place(p.Start, number(), p.Darts), place(p.Start, p.Left, number()))
			default:
				table = some(r, changed(table, r.IntN(len(table)), number()), append(slices.Clip(table), number()), table[:len(table)-1])
				if len(table) == 0 {
					table = ints(0)
				}
			}
		}
		all := everything(l, p, table)
		for i := 0; i < len(all); i++ {
			// The results of each call come before its error.
			from := i
			for {
				if _, ok := all[i].(api.Errno); ok {
					break
				}
				i++
			}
			for _, result := range all[from:i] {
				if all[i] != api.OK && !none(result) {
					t.Fatal(l, p, table, all)
				}
			}
		}
	}
}

// none reports whether a result is no number, and no list with an element.
func none(result any) bool {
	switch x := result.(type) {
	case []int:
		return len(x) == 0
	case []api.Span:
		return len(x) == 0
	}
	return result == 0
}

// largest returns rules of the greatest law, with any beds from which something can be ended.
func largest() api.AimRules {
	r := rand.New(rand.NewPCG(23, 24))
	l := rules(3000, 60, 1)
	for i := range 20 {
		double := api.Bed(201 + i)
		where := map[api.Bed]bool{0: true, double: true}
		for len(where) < 10 {
			where[api.Bed(100*(1+r.IntN(3))+1+r.IntN(20))] = true
		}
		a := throws(double)
		for bed := api.Miss; bed < 500; bed++ {
			if where[bed] {
				low := 100 + r.IntN(150)
				a.Beds = append(a.Beds, lands(bed, low, low+100+r.IntN(200)))
			}
		}
		l.Law.Aims = append(l.Law.Aims, a)
	}
	return l
}

// All limits at once: the tables of the greatest law are found in seconds, and are proved.
func TestLargest(t *testing.T) {
	l := largest()
	upper, lower, e := aim.Table(l)
	if len(upper) != 61 || len(lower) != 61 || e != api.OK {
		t.Fatal(upper, lower, e)
	}
	for least, table := range map[bool][]int{false: upper, true: lower} {
		if at, e := aim.Proves(l, table, least); at != 0 || e != api.OK {
			t.Error(table, least, at, e)
		}
		if at, e := aim.Proves(l, changed(table, 60, table[60]+map[bool]int{false: -1, true: 1}[least]), least); at != 60 || e != api.OK {
			t.Error(table, least, at, e)
		}
	}
}
