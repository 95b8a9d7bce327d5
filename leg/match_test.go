package leg_test

import (
	"math"
	"math/rand/v2"
	"slices"
	"testing"

	"oche/api"
	"oche/leg"
)

// P3.7: how a match goes on.
func TestMatch(t *testing.T) {
	best, last := api.LegMatch{Legs: 2, Sets: 2, Clear: 1}, api.LegMatch{Legs: 2, Sets: 2, Clear: 2, Extra: 1}
	single := api.LegMatch{Legs: 1, Sets: 3, Clear: 2, Extra: 25, First: 1}
	for i, c := range []struct {
		m       api.LegMatch
		winners []int
		want    api.LegScore
	}{
		{best, nil, api.LegScore{Winner: -1}}, {single, nil, api.LegScore{First: 1, Winner: -1}},
		{best, []int{1}, api.LegScore{Legs: [2]int{0, 1}, First: 1, Winner: -1}}, {best, []int{1, 0}, api.LegScore{Legs: [2]int{1, 1}, Winner: -1}},
		// The first leg of the second set is begun by the other one, after two legs and after three.
		{best, []int{1, 1}, api.LegScore{Sets: [2]int{0, 1}, First: 1, Winner: -1}}, {best, []int{1, 0, 1}, api.LegScore{Sets: [2]int{0, 1}, First: 1, Winner: -1}}, {best, []int{1, 0, 1, 0}, api.LegScore{Sets: [2]int{0, 1}, Legs: [2]int{1, 0}, First: 0, Winner: -1}},
		{best, []int{1, 1, 0, 0}, api.LegScore{Sets: [2]int{1, 1}, First: 0, Winner: -1}}, {best, []int{1, 1, 0, 1, 0, 0, 1, 0}, api.LegScore{Sets: [2]int{2, 1}, Legs: [2]int{2, 1}, First: -1, Winner: 0}},
		// Clear and Extra are for the last set alone.
		{last, []int{0, 1, 0}, api.LegScore{Sets: [2]int{1, 0}, First: 1, Winner: -1}}, {last, []int{0, 1, 0, 0, 1, 0}, api.LegScore{Sets: [2]int{2, 0}, Legs: [2]int{2, 1}, First: -1, Winner: 0}},
		{last, []int{0, 0, 1, 1, 0, 0}, api.LegScore{Sets: [2]int{2, 1}, Legs: [2]int{2, 0}, First: -1, Winner: 0}}, {last, []int{0, 0, 1, 1, 0, 1, 1}, api.LegScore{Sets: [2]int{1, 1}, Legs: [2]int{1, 2}, First: 1, Winner: -1}}, {last, []int{0, 0, 1, 1, 0, 1, 1, 1}, api.LegScore{Sets: [2]int{1, 2}, Legs: [2]int{1, 3}, First: -1, Winner: 1}}, {last, []int{0, 0, 1, 1, 0, 1, 1, 0, 1}, api.LegScore{Sets: [2]int{1, 2}, Legs: [2]int{2, 3}, First: -1, Winner: 1}},
		// Each leg is a set, and the last one has to be won by two.
		{single, []int{0, 1}, api.LegScore{Sets: [2]int{1, 1}, First: 1, Winner: -1}}, {single, []int{0, 1, 1, 0}, api.LegScore{Sets: [2]int{2, 2}, First: 1, Winner: -1}}, {single, []int{0, 1, 1, 0, 1, 0, 1, 1}, api.LegScore{Sets: [2]int{2, 3}, Legs: [2]int{1, 3}, First: -1, Winner: 1}}, {single, []int{0, 0, 0}, api.LegScore{Sets: [2]int{3, 0}, Legs: [2]int{1, 0}, First: -1, Winner: 0}},
		// The only set is the last one.
		{api.LegMatch{Legs: 3, Sets: 1, Clear: 2, Extra: 25}, []int{0, 1, 0, 1, 0}, api.LegScore{Legs: [2]int{3, 2}, First: 1, Winner: -1}}, {api.LegMatch{Legs: 3, Sets: 1, Clear: 1, Extra: 25}, []int{0, 1, 0, 1, 0}, api.LegScore{Sets: [2]int{1, 0}, Legs: [2]int{3, 2}, First: -1, Winner: 0}}, {api.LegMatch{Legs: 1, Sets: 1, Clear: 2}, []int{1}, api.LegScore{Sets: [2]int{0, 1}, Legs: [2]int{0, 1}, First: -1, Winner: 1}},
	} {
		if x, at, e := leg.Match(c.m, c.winners); x != c.want || at != 0 || e != api.OK {
			t.Error(i, x, at, e)
		}
	}
}

// P3.7: the errors of Match, in their order, with the number of the leg.
func TestMatchErrors(t *testing.T) {
	ok := api.LegMatch{Legs: 25, Sets: 25, Clear: 2, Extra: 25, First: 1}
	change := func(f func(m *api.LegMatch)) api.LegMatch {
		m := ok
		f(&m)
		return m
	}
	for i, m := range []api.LegMatch{ok, {Legs: 1, Sets: 1, Clear: 1}} {
		if _, at, e := leg.Match(m, nil); at != 0 || e != api.OK {
			t.Error(i, at, e)
		}
	}
	for _, n := range []int{math.MinInt, -1, 26, math.MaxInt} {
		for i, m := range []api.LegMatch{
			change(func(m *api.LegMatch) { m.Legs = n }), change(func(m *api.LegMatch) { m.Sets = n }), change(func(m *api.LegMatch) { m.Clear = n }), change(func(m *api.LegMatch) { m.Extra = n }), change(func(m *api.LegMatch) { m.First = n }),
			change(func(m *api.LegMatch) { m.Legs = 0 }), change(func(m *api.LegMatch) { m.Sets = 0 }), change(func(m *api.LegMatch) { m.Clear = 0 }), change(func(m *api.LegMatch) { m.Clear = 3 }), change(func(m *api.LegMatch) { m.First = 2 }), {},
		} {
			for _, winners := range [][]int{nil, {0, 1}, {7}, slices.Repeat([]int{0}, 5000)} {
				if x, at, e := leg.Match(m, winners); x != (api.LegScore{}) || at != 0 || e != api.ErrArg {
					t.Error(n, i, x, at, e)
				}
			}
		}
	}
	short := api.LegMatch{Legs: 1, Sets: 2, Clear: 1}
	for i, c := range []struct {
		winners []int
		at      int
		e       api.Errno
	}{
		{[]int{0, 0, 0}, 2, api.ErrOver}, {[]int{0, 0, 2}, 2, api.ErrOver}, {[]int{0, 1, 1, -1, 0}, 3, api.ErrOver},
		{[]int{2}, 0, api.ErrArg}, {[]int{-1}, 0, api.ErrArg}, {[]int{0, math.MaxInt}, 1, api.ErrArg}, {[]int{0, 1, math.MinInt}, 2, api.ErrArg}, {[]int{0, 5, 0, 0}, 1, api.ErrArg},
	} {
		if x, at, e := leg.Match(short, c.winners); x != (api.LegScore{}) || at != c.at || e != c.e {
			t.Error(i, x, at, e)
		}
	}
}

// setByText returns with how many of the legs a set is won, and by whom, or -1, by the text of P3.7.
func setByText(m api.LegMatch, last bool, winners []int) (legs, winner int, count [2]int) {
	for i, w := range winners {
		count[w]++
		for player := range 2 {
			has, other := count[player], count[1-player]
			wins := has >= m.Legs
			if last {
				wins = has >= m.Legs && has >= other+m.Clear || has >= m.Legs+m.Extra
			}
			if wins {
				return i + 1, player, count
			}
		}
	}
	return len(winners), -1, count
}

// matchByText returns a match after legs, set by set, by the text of P3.7, and after how many legs it was over, or -1.
func matchByText(m api.LegMatch, winners []int) (api.LegScore, int) {
	s := api.LegScore{First: m.First, Winner: -1}
	played, first := 0, m.First
	for {
		last := s.Sets[0] == m.Sets-1 && s.Sets[1] == m.Sets-1
		legs, winner, count := setByText(m, last, winners[played:])
		played += legs
		if winner == -1 {
			s.Legs, s.First = count, first
			if legs%2 == 1 {
				s.First = 1 - first
			}
			return s, -1
		}
		s.Sets[winner]++
		if s.Sets[winner] == m.Sets {
			s.Legs, s.First, s.Winner = count, -1, winner
			return s, played
		}
		first = 1 - first
	}
}

// randomMatch returns a valid match, and winners of legs for which it may be over or not.
func randomMatch(r *rand.Rand) (api.LegMatch, []int) {
	m := api.LegMatch{Legs: 1 + r.IntN(4), Sets: 1 + r.IntN(4), Clear: 1 + r.IntN(2), Extra: r.IntN(4), First: r.IntN(2)}
	var winners []int
	for range r.IntN(60) {
		winners = append(winners, r.IntN(2))
	}
	return m, winners
}

// P3.7: all sorts of matches are as the text says.
func TestMatchByText(t *testing.T) {
	r := rand.New(rand.NewPCG(5, 3))
	overs := 0
	for range 20000 {
		m, winners := randomMatch(r)
		want, over := matchByText(m, winners)
		if over >= 0 {
			overs++
			if x, at, e := leg.Match(m, winners[:over]); x != want || at != 0 || e != api.OK {
				t.Fatal(m, winners, x, at, e, want)
			}
		}
		wantAt, wantE := 0, api.OK
		if over >= 0 && over < len(winners) {
			want, wantAt, wantE = api.LegScore{}, over, api.ErrOver
		}
		if x, at, e := leg.Match(m, winners); x != want || at != wantAt || e != wantE {
			t.Fatal(m, winners, x, at, e, want, wantAt, wantE)
		}
	}
	if overs < 3000 {
		t.Error("too few matches are over:", overs)
	}
}

// P3.12: a match that is over has at least Legs * Sets legs, and the Winner has won the last one; all can be exchanged.
func TestMatches(t *testing.T) {
	r := rand.New(rand.NewPCG(6, 3))
	for range 20000 {
		m, winners := randomMatch(r)
		if _, at, e := leg.Match(m, winners); e == api.ErrOver {
			winners = winners[:at]
		}
		x, _, _ := leg.Match(m, winners)
		if x.Winner != -1 && (len(winners) < m.Legs*m.Sets || winners[len(winners)-1] != x.Winner) {
			t.Fatal(m, winners, x)
		}
		other := m
		other.First = 1 - m.First
		exchanged := slices.Clone(winners)
		for i, w := range winners {
			exchanged[i] = 1 - w
		}
		want := api.LegScore{Sets: [2]int{x.Sets[1], x.Sets[0]}, Legs: [2]int{x.Legs[1], x.Legs[0]}, First: 1 - x.First, Winner: 1 - x.Winner}
		if x.Winner == -1 {
			want.Winner = -1
		} else {
			want.First = -1
		}
		if y, at, e := leg.Match(other, exchanged); y != want || at != 0 || e != api.OK {
			t.Fatal(other, exchanged, y, at, e, want)
		}
	}
}
