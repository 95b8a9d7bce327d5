package leg_test

import (
	"math"
	"math/rand/v2"
	"slices"

	"oche/api"
)

// The gates by shorter names.
const (
	free   = api.GateAny
	double = api.GateDouble
	master = api.GateMaster
)

// count returns laws.
func count(start int, in, out api.Gate) api.Count { return api.Count{Start: start, In: in, Out: out} }

// same returns rules by which so many players count down by the same laws.
func same(players int, c api.Count) api.LegRules {
	return api.LegRules{Counts: slices.Repeat([]api.Count{c}, players)}
}

// two returns the rules of the chapter's examples.
func two() api.LegRules { return same(2, count(101, free, double)) }

// equal returns rules by which a round is thrown to its end.
func equal(r api.LegRules) api.LegRules {
	r.Equal = true
	return r
}

// limited returns rules with a limit of rounds.
func limited(r api.LegRules, rounds int) api.LegRules {
	r.Rounds = rounds
	return r
}

// from returns rules by which another player throws first.
func from(r api.LegRules, first int) api.LegRules {
	r.First = first
	return r
}

// list returns its arguments.
func list(beds ...api.Bed) []api.Bed { return beds }

// by returns a visit of a player.
func by(player int, beds ...api.Bed) api.LegVisit { return api.LegVisit{Player: player, Beds: beds} }

// numbers are numbers that no list or limit allows, or only just.
func numbers() []int {
	return []int{math.MinInt, math.MinInt + 1, -1002, -101, -2, -1, 0, 1, 2, 3, 8, 9, 25, 26, 50, 101, 125, 200, 201, 225, 1001, 1002, 10000, 10001, math.MaxInt - 1, math.MaxInt}
}

// allBeds returns all beds, the miss too.
func allBeds() []api.Bed {
	beds := list(api.Miss, api.Bull, api.Eye)
	for factor := range 4 {
		for number := range 20 {
			beds = append(beds, api.Bed(100*(factor+1)+number+1))
		}
	}
	return beds
}

// value returns the score of a bed.
func value(bed api.Bed) int { return int(bed/100) * int(bed%100) }

// opens reports whether a bed opens a gate, by the text of DOC.md.
func opens(bed api.Bed, gate api.Gate) bool {
	switch factor := int(bed / 100); gate {
	case double:
		return factor == 2
	case master:
		return factor >= 2
	default:
		return bed != api.Miss
	}
}

// visitByText returns what Visit should return of a valid stand, by the text of C2, C3 and P3.2, and the bed that is wrong or -1.
func visitByText(c api.Count, in bool, left int, beds []api.Bed) (api.LegThrow, int, api.Errno) {
	rest, isIn := left, in
	for i, bed := range beds {
		if !slices.Contains(allBeds(), bed) {
			return api.LegThrow{}, i, api.ErrArg
		}
		counts := isIn || opens(bed, c.In)
		isIn = counts
		darts, more := i+1, i+1 < len(beds)
		if counts && value(bed) != 0 {
			r := rest - value(bed)
			won := r == 0 && opens(bed, c.Out)
			goesOn := r >= 2 || r == 1 && c.Out == free
			if (won || !goesOn) && more {
				return api.LegThrow{}, i + 1, api.ErrMore
			}
			if won {
				return api.LegThrow{Score: left, Darts: darts, In: true, Won: true}, -1, api.OK
			}
			if !goesOn {
				return api.LegThrow{Left: left, Darts: darts, In: in, Bust: true}, -1, api.OK
			}
			rest = r
		}
		if darts == 3 && more {
			return api.LegThrow{}, 3, api.ErrMore
		}
	}
	if len(beds) < 3 {
		return api.LegThrow{}, -1, api.ErrShort
	}
	return api.LegThrow{Left: rest, Score: left - rest, Darts: 3, In: isIn}, -1, api.OK
}

// stateByText returns the leg after right visits, from all of them at once, by the text of P3.3, P3.4 and P3.8, and what they came to.
func stateByText(r api.LegRules, l []api.LegVisit) api.LegState {
	n := len(r.Counts)
	s := api.LegState{Next: (r.First + len(l)) % n, Round: len(l) / n}
	for _, c := range r.Counts {
		s.Left, s.Darts, s.In = append(s.Left, c.Start), append(s.Darts, 0), append(s.In, c.In == free)
	}
	begun, throws := 0, []api.LegThrow{} // the number of the first visit of the round of the last one
	for i, v := range l {
		t, _, _ := visitByText(r.Counts[v.Player], s.In[v.Player], s.Left[v.Player], v.Beds)
		s.Left[v.Player] -= t.Score
		s.Darts[v.Player] += len(v.Beds)
		s.In[v.Player] = t.In
		begun, throws = i/n*n, append(throws, t)
	}
	full := len(l) > 0 && len(l)%n == 0
	ended := slices.ContainsFunc(throws, func(t api.LegThrow) bool { return t.Won })
	switch {
	case ended && !r.Equal:
		s.Over, s.Winners = true, []int{l[len(l)-1].Player}
	case ended && full:
		s.Over = true
		for darts := 1; len(s.Winners) == 0; darts++ {
			for i := begun; i < len(l); i++ {
				if throws[i].Won && throws[i].Darts == darts {
					s.Winners = append(s.Winners, l[i].Player)
				}
			}
		}
	case !ended && r.Rounds > 0 && len(l) == n*r.Rounds:
		s.Over = true
		for p, left := range s.Left {
			if left == slices.Min(s.Left) {
				s.Winners = append(s.Winners, p)
			}
		}
	}
	if s.Over {
		s.Next = -1
		slices.Sort(s.Winners)
	}
	return s
}

// judgeByText returns what Judge should return for valid rules, and the visits that are right.
func judgeByText(r api.LegRules, l []api.LegVisit) (s api.LegState, faults []api.LegFault, right []api.LegVisit) {
	s = stateByText(r, nil)
	for i, v := range l {
		dart, e := -1, api.OK
		switch {
		case s.Over:
			e = api.ErrOver
		case v.Player < 0 || v.Player >= len(r.Counts):
			e = api.ErrArg
		case v.Player != s.Next:
			e = api.ErrTurn
		default:
			_, dart, e = visitByText(r.Counts[v.Player], s.In[v.Player], s.Left[v.Player], v.Beds)
		}
		if e != api.OK {
			faults = append(faults, api.LegFault{Visit: i, Dart: dart, Error: e})
			continue
		}
		right = append(right, v)
		s = stateByText(r, right)
	}
	return s, faults, right
}

// sameLeg compares legs.
func sameLeg(a, b api.LegState) bool {
	return slices.Equal(a.Left, b.Left) && slices.Equal(a.Darts, b.Darts) && slices.Equal(a.In, b.In) && a.Next == b.Next && a.Round == b.Round && a.Over == b.Over && slices.Equal(a.Winners, b.Winners)
}

// noLeg reports whether a leg is the zero value.
func noLeg(s api.LegState) bool { return sameLeg(s, api.LegState{}) }

// randomRules returns valid rules with low starts, so that legs are over soon.
func randomRules(r *rand.Rand) api.LegRules {
	rules := api.LegRules{Equal: r.IntN(2) == 0}
	for range 1 + r.IntN(4) {
		rules.Counts = append(rules.Counts, count(2+r.IntN(40), api.Gate(r.IntN(3)), api.Gate(r.IntN(3))))
	}
	if r.IntN(8) == 0 {
		rules.Counts = append(rules.Counts, same(4, rules.Counts[0]).Counts...)
	}
	if r.IntN(2) == 0 {
		rules.Rounds = 1 + r.IntN(6)
	}
	rules.First = r.IntN(len(rules.Counts))
	return rules
}

// randomVisit returns a visit that is right with a stand, and often tries to end the leg.
func randomVisit(r *rand.Rand, player int, c api.Count, in bool, left int) api.LegVisit {
	v, rest := by(player), left
	for {
		bed := allBeds()[r.IntN(83)]
		switch half := rest / 2; {
		case r.IntN(3) == 0 && rest > 0 && rest%2 == 0 && half <= api.MaxNumber:
			bed = api.Bed(200 + half)
		case r.IntN(2) == 0:
			bed = list(api.Miss, 101, 102, 103, 201, 202, 203, 204, 301, 302, 401)[r.IntN(11)]
		}
		rest -= value(bed)
		v.Beds = append(v.Beds, bed)
		if _, _, e := visitByText(c, in, left, v.Beds); e == api.OK {
			return v
		}
	}
}

// randomLeg returns visits that are right, up to the end of a leg or to so many visits, and the leg then.
func randomLeg(r *rand.Rand, rules api.LegRules, most int) ([]api.LegVisit, api.LegState) {
	var l []api.LegVisit
	s := stateByText(rules, nil)
	for len(l) < most && !s.Over {
		p := s.Next
		l = append(l, randomVisit(r, p, rules.Counts[p], s.In[p], s.Left[p]))
		s = stateByText(rules, l)
	}
	return l, s
}

// spoiled returns visits of which some are wrong now, in any way.
func spoiled(r *rand.Rand, l []api.LegVisit) []api.LegVisit {
	var with []api.LegVisit
	for _, v := range l {
		beds := slices.Clone(v.Beds)
		switch r.IntN(12) {
		case 0:
			with = append(with, by(r.IntN(10)-1, beds...))
		case 1:
			with = append(with, by(v.Player, beds[:len(beds)-1]...))
		case 2:
			with = append(with, by(v.Player, append(beds, allBeds()[r.IntN(83)])...))
		case 3:
			with = append(with, by(v.Player, slices.Insert(beds, r.IntN(len(beds)+1), api.Bed(numbers()[r.IntN(len(numbers()))]))...))
		case 4:
			with = append(with, v)
		}
		if r.IntN(15) > 0 {
			with = append(with, v)
		}
	}
	return with
}
