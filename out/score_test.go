package out_test

import (
	"math"
	"math/rand/v2"
	"slices"
	"testing"

	"oche/api"
	"oche/out"
)

// P2.6 and P2.7: the fewest darts of scores, and the scores that cannot be ended.
func TestScores(t *testing.T) {
	for _, c := range []struct {
		r      api.OutRules
		most   int
		few    []int
		bogeys []int
	}{
		{with(api.GateDouble, 1, 101, 201), 5, []int{0, -1, 1, 2, 2, 3}, []int{1, 3, 4, 5}},
		{with(api.GateDouble, 2, 101, 201), 5, []int{0, -1, 1, 2, 2, 3}, []int{1, 5}},
		{with(api.GateAny, 2, 101), 4, []int{0, 1, 2, 3, 4}, []int{3, 4}},
		{with(api.GateAny, 4, 101), 4, []int{0, 1, 2, 3, 4}, nil},
		{with(api.GateMaster, 9, 101, 301), 5, []int{0, -1, -1, 1, 2, 3}, []int{1, 2}},
		{with(api.GateDouble, 9, 301), 4, []int{0, -1, -1, -1, -1}, []int{1, 2, 3, 4}},
		{with(api.GateAny, 1, 102), 5, []int{0, -1, 1, -1, 2, -1}, []int{1, 3, 4, 5}},
		{with(api.GateAny, 1, 420), 0, []int{0}, nil},
		{with(api.GateAny, 1, 101), 1, []int{0, 1}, nil},
		{with(api.GateDouble, 1, 201), 1, []int{0, -1}, []int{1}},
	} {
		few, e := out.Fewest(c.r, c.most)
		bogeys, f := out.Bogeys(c.r, c.most)
		if !slices.Equal(few, c.few) || !slices.Equal(bogeys, c.bogeys) || e != api.OK || f != api.OK {
			t.Error(c.r, c.most, few, bogeys, e, f)
		}
	}
}

// P2.6: with more darts than rules can have, and for all scores.
func TestFewestByText(t *testing.T) {
	for _, r := range rules() {
		few, e := out.Fewest(r, api.MaxStart)
		if e != api.OK || len(few) != api.MaxStart+1 || few[0] != 0 {
			t.Fatal(r, len(few), e)
		}
		for score := 1; score <= api.MaxStart; score += 1 + score/12 {
			if want := fewestByText(r, score); few[score] != want {
				t.Fatal(r, score, few[score], want)
			}
		}
		for _, most := range []int{0, 1, 2, 3, 40, 1000} {
			if l, e := out.Fewest(r, most); !slices.Equal(l, few[:most+1]) || e != api.OK {
				t.Fatal(r, most, l, e)
			}
		}
	}
	if few, _ := out.Fewest(with(api.GateAny, 1, 101), api.MaxStart); few[api.MaxStart] != api.MaxStart {
		t.Error(few)
	}
}

// P2.7: the bogeys are the scores without a way out, up to the greatest score.
func TestBogeysByText(t *testing.T) {
	for _, r := range rules() {
		ways := waysByText(r)
		var want []int
		for score := 1; score <= api.MaxStart; score++ {
			if ways[score] == nil {
				want = append(want, score)
			}
		}
		for _, most := range []int{0, 1, 2, 3, 59, 60, 1000, api.MaxStart} {
			beyond := slices.IndexFunc(append(want, api.MaxStart+1), func(score int) bool { return score > most })
			if l, e := out.Bogeys(r, most); !slices.Equal(l, want[:beyond]) || e != api.OK {
				t.Fatal(r, most, l, e)
			}
		}
	}
}

// P2.8: lists that are proofs, and lists that are not.
func TestClosed(t *testing.T) {
	r := with(api.GateDouble, 2, six()...)
	for _, c := range []struct {
		r     api.OutRules
		never []bool
		want  bool
	}{
		{r, nil, true}, {r, []bool{}, true}, {r, []bool{false}, true}, {r, []bool{true}, false}, {r, make([]bool, 1002), true}, {r, make([]bool, 1001), true},
		{r, []bool{0: true, 1: true}, false}, {r, []bool{9: true}, true}, {r, []bool{10: true}, false}, {r, []bool{11: true}, true}, {r, []bool{12: true}, false}, {r, []bool{2: true, 12: true}, true},
		{r, []bool{1000: true}, false}, {r, []bool{1001: true}, false},
		{with(api.GateAny, 1, 102), []bool{1: true}, true}, {with(api.GateAny, 1, 102), []bool{3: true}, false}, {with(api.GateAny, 1, 102), []bool{1: true, 3: true}, true}, {with(api.GateDouble, 1, 102), []bool{3: true}, true}, {with(api.GateMaster, 1, 102), []bool{3: true}, true},
		{with(api.GateDouble, 1, 101), []bool{1: true}, true}, {with(api.GateDouble, 1, 101), []bool{2: true}, true}, {with(api.GateAny, 1, 101), []bool{1: true}, false}, {with(api.GateMaster, 1, 301), []bool{3: true}, false}, {with(api.GateDouble, 1, 301), []bool{3: true}, true},
		// How many darts there are does not matter.
		{with(api.GateAny, 1, 101), []bool{5: true}, false}, {with(api.GateDouble, 1, 201), []bool{4: true}, false}, {with(api.GateDouble, 9, 201), []bool{1: true, 3: true, 5: true, 7: true}, true},
	} {
		if proof, e := out.Closed(c.r, c.never); proof != c.want || e != api.OK {
			t.Error(c.r, c.never, proof, e)
		}
	}
}

// P2.8: random lists, and random ones that are closed by taking scores away.
func TestClosedByText(t *testing.T) {
	r := rand.New(rand.NewPCG(1, 2))
	proofs := 0
	for range 4000 {
		rules := randomRules(r, 6)
		never := make([]bool, r.IntN(100))
		for i := range never {
			never[i] = i > 0 && r.IntN(10) > 0 || i == 0 && r.IntN(10) == 0
		}
		for range r.IntN(3) {
			few, _ := out.Fewest(rules, api.MaxStart)
			for i := range never {
				never[i] = never[i] && few[i] < 0
			}
		}
		proof, e := out.Closed(rules, never)
		if proof != closedByText(rules, never) || e != api.OK {
			t.Fatal(rules, never, proof, e)
		}
		if proof && slices.Contains(never, true) {
			proofs++
		}
	}
	if proofs < 100 {
		t.Error("too few lists are proofs:", proofs)
	}
}

// P2.8: the errors of Closed, in their order.
func TestClosedErrors(t *testing.T) {
	for name, r := range wrongRules() {
		for _, never := range [][]bool{nil, {1: true}, make([]bool, 1003)} {
			if proof, e := out.Closed(r, never); proof || e != api.ErrArg {
				t.Error(name, len(never), proof, e)
			}
		}
	}
	for _, n := range []int{1003, 5000} {
		if proof, e := out.Closed(with(api.GateAny, 1, 101), make([]bool, n)); proof || e != api.ErrLong {
			t.Error(n, proof, e)
		}
	}
}

// P2.9: legs that are opened by the first dart and won by the last one.
func TestLegs(t *testing.T) {
	for _, c := range []struct {
		c     api.Count
		beds  []api.Bed
		darts int
		want  int
	}{
		{api.Count{Start: 40, In: api.GateDouble, Out: api.GateDouble}, six(), 1, 1},
		{api.Count{Start: 60, In: api.GateDouble, Out: api.GateMaster}, six(), 1, 0},
		{api.Count{Start: 60, In: api.GateMaster, Out: api.GateMaster}, six(), 1, 1},
		{api.Count{Start: 60, In: api.GateMaster, Out: api.GateDouble}, six(), 1, 0},
		{api.Count{Start: 60, In: api.GateDouble, Out: api.GateDouble}, six(), 2, 2},
		{api.Count{Start: 60, In: api.GateAny, Out: api.GateDouble}, six(), 2, 3},
		{api.Count{Start: 2}, list(101), 2, 1}, {api.Count{Start: 2}, list(101), 1, 0}, {api.Count{Start: 2}, list(101), 3, 0},
		{api.Count{Start: 1001}, list(420), 9, 0},
		{api.Count{Start: 720, In: api.GateMaster, Out: api.GateMaster}, all(4), 9, 1},
		{api.Count{Start: 501, In: api.GateAny, Out: api.GateDouble}, all(3), 9, 3944},
	} {
		if n, e := out.Legs(c.c, c.beds, c.darts); n != c.want || e != api.OK {
			t.Error(c.c, c.darts, n, e)
		}
	}
}

// P2.9: what is returned is what is found by trying all lists.
func TestLegsByText(t *testing.T) {
	for _, r := range rules() {
		for _, in := range gates() {
			for darts := range min(r.Darts, 4) {
				for start := 2; start <= 250; start += 1 + start/5 {
					c := api.Count{Start: start, In: in, Out: r.Out}
					if len(r.Beds) > 50 && start%4 > 0 {
						continue
					}
					if n, e := out.Legs(c, r.Beds, darts+1); n != legsByText(c, r.Beds, darts+1) || e != api.OK {
						t.Fatal(c, r.Beds, darts+1, n, e)
					}
				}
			}
		}
	}
}

// P2.9: the errors of Legs, in their order.
func TestLegsErrors(t *testing.T) {
	ok := api.Count{Start: 101, In: api.GateDouble, Out: api.GateDouble}
	for _, c := range []struct {
		c     api.Count
		beds  []api.Bed
		darts int
		want  api.Errno
	}{
		{api.Count{Start: 1}, six(), 1, api.ErrArg}, {api.Count{Start: 1002}, six(), 1, api.ErrArg}, {api.Count{}, six(), 1, api.ErrArg}, {api.Count{Start: -2}, six(), 0, api.ErrArg}, {api.Count{Start: math.MaxInt}, six(), 10, api.ErrArg}, {api.Count{Start: math.MinInt}, six(), 1, api.ErrArg},
		{api.Count{Start: 40, In: -1}, six(), 0, api.ErrArg}, {api.Count{Start: 40, In: 3}, six(), 1, api.ErrArg}, {api.Count{Start: 40, Out: -1}, six(), 1, api.ErrArg}, {api.Count{Start: 40, Out: 3}, six(), 0, api.ErrArg},
		{ok, nil, 1, api.ErrArg}, {ok, list(), 0, api.ErrArg}, {ok, list(0, 220), 1, api.ErrArg}, {ok, list(220, 220), 1, api.ErrArg}, {ok, list(220, 120), 10, api.ErrArg}, {ok, list(325), 0, api.ErrArg}, {ok, append(all(4), 421), 1, api.ErrArg},
		{ok, six(), 0, api.ErrRange}, {ok, six(), 10, api.ErrRange}, {ok, six(), -1, api.ErrRange}, {ok, six(), math.MinInt, api.ErrRange}, {ok, six(), math.MaxInt, api.ErrRange},
		{ok, six(), 1, api.OK}, {ok, six(), 9, api.OK}, {api.Count{Start: 2}, all(4), 9, api.OK}, {api.Count{Start: 1001, In: 2, Out: 2}, all(4), 9, api.OK},
	} {
		if n, e := out.Legs(c.c, c.beds, c.darts); e != c.want || e != api.OK && n != 0 {
			t.Error(c.c, c.beds, c.darts, n, e)
		}
	}
	for name, r := range wrongRules() {
		if r.Darts != 1 || out.Check(with(api.GateAny, 1, r.Beds...)) == api.OK {
			continue
		}
		if n, e := out.Legs(ok, r.Beds, 0); n != 0 || e != api.ErrArg {
			t.Error(name, n, e)
		}
	}
}
