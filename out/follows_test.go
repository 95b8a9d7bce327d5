package out_test

import (
	"math"
	"math/rand/v2"
	"slices"
	"testing"

	"oche/api"
	"oche/out"
)

// P2.10: each list that is returned is a way out, each is greater than the one before, and there are as many as Number says.
func TestTheyEndIt(t *testing.T) {
	r := rand.New(rand.NewPCG(3, 3))
	for range 3000 {
		rules, score := randomRules(r, 30), 1+r.IntN(300)
		l, e := out.Ways(rules, score)
		if e != api.OK {
			continue
		}
		n, _ := out.Number(rules, score)
		first, _ := out.First(rules, score)
		if len(l) != n || !slices.Equal(first, l[0]) {
			t.Fatal(rules, score, len(l), n, first)
		}
		for i, way := range l {
			strange := func(bed api.Bed) bool { return !slices.Contains(rules.Beds, bed) }
			if len(way) > rules.Darts || slices.ContainsFunc(way, strange) || !isWay(rules.Out, score, way) || i > 0 && smaller(l[i-1], way) >= 0 {
				t.Fatal(rules, score, i, way)
			}
		}
	}
}

// randomThrows returns beds of which none is bust, to the end of a leg with at most so many darts, or nil.
func randomThrows(r *rand.Rand, rules api.OutRules, score int) []api.Bed {
	var beds []api.Bed
	s := stand{score, true}
	for range rules.Darts {
		bed := rules.Beds[r.IntN(len(rules.Beds))]
		to, does := s.after(api.Count{Out: rules.Out}, bed)
		beds, s = append(beds, bed), to
		if does == wins {
			return beds
		}
		if does == isBust {
			return nil
		}
	}
	return nil
}

// P2.11: beds that end a leg are one of the ways out.
func TestNoneIsMissing(t *testing.T) {
	r := rand.New(rand.NewPCG(4, 4))
	ended := 0
	for range 30000 {
		rules, score := randomRules(r, 20), 1+r.IntN(120)
		beds := randomThrows(r, rules, score)
		if beds == nil {
			continue
		}
		ended++
		if l, e := out.Ways(rules, score); e != api.ErrLong && !slices.ContainsFunc(l, func(way []api.Bed) bool { return slices.Equal(way, beds) }) {
			t.Fatal(rules, score, beds, l, e)
		}
		if first, e := out.First(rules, score); e != api.OK || smaller(first, beds) > 0 {
			t.Fatal(rules, score, beds, first, e)
		}
		if l, e := out.Forced(rules, score); e != api.OK || slices.ContainsFunc(l, func(bed api.Bed) bool { return !slices.Contains(beds, bed) }) {
			t.Fatal(rules, score, beds, l, e)
		}
		bogeys, e := out.Bogeys(rules, score)
		few, f := out.Fewest(rules, score)
		if slices.Contains(bogeys, score) || few[score] < 1 || few[score] > len(beds) || e != api.OK || f != api.OK {
			t.Fatal(rules, score, beds, bogeys, few, e, f)
		}
	}
	if ended < 300 {
		t.Error("too few legs were ended:", ended)
	}
}

// P2.12: the scores that some list proves are those for which Fewest is -1.
func TestNever(t *testing.T) {
	r := rand.New(rand.NewPCG(5, 5))
	for range 30 {
		rules := randomRules(r, 4)
		if r.IntN(2) == 0 {
			rules = with(rules.Out, 1, slices.DeleteFunc(list(101, 102, 201, 202, 301), func(api.Bed) bool { return r.IntN(2) == 0 })...)
		}
		if out.Check(rules) != api.OK {
			continue
		}
		const scores = 10
		few, _ := out.Fewest(rules, scores-1)
		proved := make([]bool, scores)
		for set := range 1 << scores {
			never := make([]bool, scores)
			for score := range scores {
				never[score] = set>>score&1 == 1
			}
			if proof, e := out.Closed(rules, never); e != api.OK || !proof {
				continue
			}
			for score := range scores {
				proved[score] = proved[score] || never[score]
			}
		}
		for score := range scores {
			if proved[score] != (few[score] == -1) {
				t.Fatal(rules, score, proved[score], few[score])
			}
		}
	}
}

// P2.12: all scores for which Fewest is -1 make one proof, to which no other score can be added.
func TestNeverAtAll(t *testing.T) {
	for _, rules := range rules() {
		few, _ := out.Fewest(rules, api.MaxStart)
		never := make([]bool, len(few))
		for score, n := range few {
			never[score] = n == -1
		}
		if proof, e := out.Closed(rules, never); !proof || e != api.OK {
			t.Fatal(rules, proof, e)
		}
		for score, n := range few {
			if n == -1 {
				continue
			}
			never[score] = true
			if proof, e := out.Closed(rules, never); proof || e != api.OK {
				t.Fatal(rules, score, proof, e)
			}
			never[score] = false
		}
	}
}

// P2.13: with more of anything, nothing becomes harder.
func TestMore(t *testing.T) {
	r := rand.New(rand.NewPCG(6, 6))
	for range 200 {
		less := randomRules(r, 8)
		less.Darts = min(less.Darts, 8)
		wider := gates()[slices.Index(gates(), less.Out):]
		more := with(wider[r.IntN(len(wider))], less.Darts+r.IntN(2), less.Beds...)
		more.Beds = slices.Clone(more.Beds)
		for range r.IntN(3) {
			more.Beds = append(more.Beds, all(4)[r.IntN(82)])
		}
		slices.Sort(more.Beds)
		more.Beds = slices.Compact(more.Beds)
		few, _ := out.Fewest(less, 150)
		fewer, _ := out.Fewest(more, 150)
		bogeys, _ := out.Bogeys(less, 150)
		left, _ := out.Bogeys(more, 150)
		for score := 1; score <= 150; score++ {
			n, _ := out.Number(less, score)
			m, _ := out.Number(more, score)
			if m < n || few[score] != -1 && (fewer[score] == -1 || fewer[score] > few[score]) || slices.Contains(left, score) && !slices.Contains(bogeys, score) {
				t.Fatal(less, more, score, n, m, few[score], fewer[score])
			}
		}
	}
}

// P2.9 with P2.4: if any bed opens the leg, the numbers of Legs with all darts make those of Number.
func TestLegsAreWays(t *testing.T) {
	r := rand.New(rand.NewPCG(7, 7))
	for range 500 {
		rules, score := randomRules(r, 20), 2+r.IntN(300)
		sum := 0
		for darts := range rules.Darts {
			n, _ := out.Legs(api.Count{Start: score, Out: rules.Out}, rules.Beds, darts+1)
			sum += n
		}
		if n, e := out.Number(rules, score); n != sum || e != api.OK {
			t.Fatal(rules, score, n, sum, e)
		}
	}
}

// The chapter's examples (P2.2 to P2.9).
func TestExamples(t *testing.T) {
	r := with(api.GateDouble, 2, six()...)
	for _, c := range []struct {
		score  int
		ways   [][]api.Bed
		forced []api.Bed
	}{
		{40, [][]api.Bed{{220}}, list(220)},
		{60, [][]api.Bed{{120, 220}, {205, 225}, {225, 205}}, nil},
		{110, [][]api.Bed{{320, 225}}, list(225, 320)},
	} {
		l, e := out.Ways(r, c.score)
		forced, f := out.Forced(r, c.score)
		n, g := out.Number(r, c.score)
		if !sameWays(l, c.ways) || !slices.Equal(forced, c.forced) || n != len(c.ways) || e != api.OK || f != api.OK || g != api.OK {
			t.Error(c.score, l, forced, n, e, f, g)
		}
	}
	few, e := out.Fewest(r, 40)
	for score, want := range map[int]int{10: 1, 20: 2, 30: 2, 35: 2, 40: 1, 5: -1, 15: -1, 25: -1} {
		if e != api.OK || few[score] != want {
			t.Error(score, few[score], e)
		}
	}
	if l, e := out.Bogeys(r, 15); !slices.Equal(l, []int{1, 2, 3, 4, 5, 6, 7, 8, 9, 11, 12, 13, 14, 15}) || e != api.OK {
		t.Error(l, e)
	}
	for _, c := range []struct {
		never []bool
		want  bool
	}{
		{[]bool{1: true, 3: true, 5: true}, true}, {[]bool{25: true}, false}, {[]bool{5: true, 25: true}, false}, {[]bool{5: true, 15: true, 25: true}, true},
	} {
		if proof, e := out.Closed(r, c.never); proof != c.want || e != api.OK {
			t.Error(c.never, proof, e)
		}
	}
	for in, want := range map[api.Gate]int{api.GateDouble: 1, api.GateAny: 2} {
		if n, e := out.Legs(api.Count{Start: 100, In: in, Out: api.GateDouble}, six(), 2); n != want || e != api.OK {
			t.Error(in, n, e)
		}
	}
	// The example of DOC.md, across the chapters.
	if l, e := out.Ways(with(api.GateDouble, 2, 110, 205, 210, 220), 20); !sameWays(l, [][]api.Bed{{210}, {110, 205}, {205, 205}}) || e != api.OK {
		t.Error(l, e)
	}
}

// P1: whatever the arguments are, no function panics, and with an error the other results are zero values.
func TestAnyArguments(t *testing.T) {
	ends := []int{math.MinInt, math.MinInt + 1, -201, -100, -1, 0, 1, 2, 3, 9, 10, 25, 101, 125, 220, 225, 420, 421, 1001, 1002, math.MaxInt - 1, math.MaxInt}
	r := rand.New(rand.NewPCG(8, 8))
	pick := func() int { return ends[r.IntN(len(ends))] }
	for range 3000 {
		rules := randomRules(r, 82)
		switch r.IntN(4) {
		case 0:
			rules.Beds[r.IntN(len(rules.Beds))] = api.Bed(pick())
		case 1:
			rules.Out, rules.Darts = api.Gate(pick()), pick()
		}
		score := pick()
		if l, more := scoreErrors(rules, score); more && l[2] != api.OK {
			t.Fatal(rules, score, l)
		}
		if l, more := mostErrors(rules, score); more && l[0] != api.OK {
			t.Fatal(rules, score, l)
		}
		if proof, e := out.Closed(rules, make([]bool, r.IntN(1100))); proof != (e == api.OK) {
			t.Fatal(rules, proof, e)
		}
		if n, e := out.Legs(api.Count{Start: pick(), In: api.Gate(pick()), Out: api.Gate(pick())}, rules.Beds, pick()); e != api.OK && n != 0 {
			t.Fatal(rules, n, e)
		}
	}
}
