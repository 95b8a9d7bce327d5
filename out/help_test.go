package out_test

import (
	"iter"
	"math"
	"math/rand/v2"
	"slices"

	"oche/api"
)

// with returns rules.
func with(gate api.Gate, darts int, beds ...api.Bed) api.OutRules {
	return api.OutRules{Beds: beds, Out: gate, Darts: darts}
}

// six returns the beds of the chapter's examples.
func six() []api.Bed { return list(120, 125, 205, 220, 225, 320) }

// list returns its arguments.
func list(beds ...api.Bed) []api.Bed { return beds }

// gates returns all gates, the narrower ones first.
func gates() []api.Gate { return []api.Gate{api.GateDouble, api.GateMaster, api.GateAny} }

// all returns all beds with factors up to most, and the bull and the eye, ascending.
func all(most int) []api.Bed {
	beds := list(api.Bull, api.Eye)
	for factor := range most {
		for number := range api.MaxNumber {
			beds = append(beds, api.Bed(100*(factor+1)+number+1))
		}
	}
	slices.Sort(beds)
	return beds
}

// rules returns valid rules of all sorts, with few enough lists of beds that all of them can be tried.
func rules() []api.OutRules {
	var l []api.OutRules
	for _, gate := range gates() {
		l = append(l,
			with(gate, 1, 101), with(gate, 9, 101), with(gate, 9, 201), with(gate, 9, 301), with(gate, 3, 401),
			with(gate, 1, six()...), with(gate, 2, six()...), with(gate, 4, six()...),
			with(gate, 6, 101, 102, 201), with(gate, 7, 101, 201, 301), with(gate, 5, 103, 206, 301, 401), with(gate, 9, 119, 203),
			with(gate, 5, 110, 125, 225, 317, 420), with(gate, 4, 101, 120, 201, 220, 301, 320, 401, 420),
			with(gate, 2, all(3)...), with(gate, 2, all(4)...), with(gate, 1, all(4)...),
		)
	}
	return l
}

// wrongRules returns rules that are not valid, by what is wrong.
func wrongRules() map[string]api.OutRules {
	ok := six()
	return map[string]api.OutRules{
		"nothing": {}, "no beds": with(0, 1), "empty beds": with(0, 1, list()...), "too many beds": with(0, 1, append(all(4), 501)...),
		"no darts": with(0, 0, ok...), "darts below 0": with(0, -1, ok...), "10 darts": with(0, 10, ok...), "least darts": with(0, math.MinInt, ok...), "most darts": with(0, math.MaxInt, ok...),
		"gate -1": with(-1, 1, ok...), "gate 3": with(3, 1, ok...), "most gate": with(math.MaxInt, 1, ok...),
		"a miss": with(0, 1, api.Miss, 101), "a miss alone": with(0, 1, api.Miss), "no factor": with(0, 1, 20), "a bull without factor": with(0, 1, 25), "factor 5": with(0, 1, 501), "factor -1": with(0, 1, -101), "factor 50": with(0, 1, 5001),
		"number 0": with(0, 1, 100), "double 0": with(0, 1, 200), "number 21": with(0, 1, 121), "number 24": with(0, 1, 224), "number 26": with(0, 1, 126), "number 99": with(0, 1, 199), "treble bull": with(0, 1, 325), "quadruple bull": with(0, 1, 425), "number 21, at the end": with(0, 1, 101, 102, 421),
		"least bed": with(0, 1, math.MinInt), "most bed": with(0, 1, math.MaxInt),
		"twice": with(0, 1, 101, 101), "twice at the end": with(0, 1, 101, 220, 220), "descending": with(0, 1, 102, 101), "descending at the end": with(0, 1, 101, 205, 125), "the eye before the bull": with(0, 1, api.Eye, api.Bull),
	}
}

// value returns the score of a bed.
func value(bed api.Bed) int { return int(bed/100) * int(bed%100) }

// opens reports whether a bed opens a gate, by the terms of DOC.md.
func opens(bed api.Bed, gate api.Gate) bool {
	factor := int(bed / 100)
	return gate == api.GateAny && bed != api.Miss || gate == api.GateDouble && factor == 2 || gate == api.GateMaster && factor >= 2
}

// stand is what is left, and whether a player is in.
type stand struct {
	left int
	in   bool
}

// dart is what a dart does to a stand.
type dart int

const (
	goesOn dart = iota
	wins
	isBust
)

// after returns the stand after a dart, and what the dart does, by the text of C2.
func (s stand) after(c api.Count, bed api.Bed) (stand, dart) {
	if !s.in && !opens(bed, c.In) {
		return s, goesOn
	}
	s.in = true
	rest := s.left - value(bed)
	switch {
	case value(bed) == 0:
		return s, goesOn
	case rest == 0 && opens(bed, c.Out):
		return stand{0, true}, wins
	case rest >= 2, rest == 1 && c.Out == api.GateAny:
		return stand{rest, true}, goesOn
	}
	return s, isBust
}

// isWay reports whether beds end a score, by the text of the chapter.
func isWay(gate api.Gate, score int, beds []api.Bed) bool {
	s, does := stand{score, true}, goesOn
	for _, bed := range beds {
		if does != goesOn {
			return false
		}
		s, does = s.after(api.Count{Out: gate}, bed)
	}
	return does == wins
}

// lists yields all lists of just n of the beds, the smaller ones first.
func lists(beds []api.Bed, n int) iter.Seq[[]api.Bed] {
	return func(yield func([]api.Bed) bool) {
		if n == 0 {
			yield(nil)
			return
		}
		for begun := range lists(beds, n-1) {
			for _, bed := range beds {
				if !yield(append(slices.Clone(begun), bed)) {
					return
				}
			}
		}
	}
}

// waysByText returns the ways out from all scores, the smaller ones first, by trying all lists of beds.
func waysByText(r api.OutRules) map[int][][]api.Bed {
	ways := map[int][][]api.Bed{}
	for n := range r.Darts {
		for l := range lists(r.Beds, n+1) {
			score := 0
			for _, bed := range l {
				score += value(bed)
			}
			if isWay(r.Out, score, l) {
				ways[score] = append(ways[score], l)
			}
		}
	}
	return ways
}

// fewestByText returns with how few darts a score can be ended, or -1, by following all beds at once.
func fewestByText(r api.OutRules, score int) int {
	now := map[stand]bool{{score, true}: true}
	for n := 1; len(now) > 0; n++ {
		next := map[stand]bool{}
		for s := range now {
			for _, bed := range r.Beds {
				to, does := s.after(api.Count{Out: r.Out}, bed)
				if does == wins {
					return n
				}
				if does == goesOn {
					next[to] = true
				}
			}
		}
		now = next
	}
	return -1
}

// closedByText reports whether a list is a proof, by the text of P2.8.
func closedByText(r api.OutRules, never []bool) bool {
	for score, claimed := range never {
		if !claimed {
			continue
		}
		if score == 0 {
			return false
		}
		for _, bed := range r.Beds {
			to, does := stand{score, true}.after(api.Count{Out: r.Out}, bed)
			if does != isBust && !never[to.left] {
				return false
			}
		}
	}
	return true
}

// legsByText returns in how many ways a leg is won with just so many darts that all count, by trying all lists of beds.
func legsByText(c api.Count, beds []api.Bed, darts int) int {
	sum := 0
	for l := range lists(beds, darts) {
		if opens(l[0], c.In) && isWay(c.Out, c.Start, l) {
			sum++
		}
	}
	return sum
}

// randomRules returns valid rules with at most so many beds.
func randomRules(r *rand.Rand, most int) api.OutRules {
	beds := all(4)
	r.Shuffle(len(beds), func(i, j int) { beds[i], beds[j] = beds[j], beds[i] })
	beds = beds[:1+r.IntN(most)]
	slices.Sort(beds)
	return with(api.Gate(r.IntN(3)), 1+r.IntN(api.MaxOutDarts), beds...)
}

// sameWays compares lists of ways.
func sameWays(a, b [][]api.Bed) bool { return slices.EqualFunc(a, b, slices.Equal[[]api.Bed]) }

// smaller compares two ways as the chapter says.
func smaller(a, b []api.Bed) int {
	if len(a) != len(b) {
		return len(a) - len(b)
	}
	return slices.Compare(a, b)
}
