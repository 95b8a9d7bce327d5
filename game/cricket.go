package game

import (
	"cmp"
	"slices"

	"oche/api"
	"oche/terms"
)

// closed is how many marks close a number.
const closed = 3

// cricket is a game in which numbers are closed.
type cricket struct{ usual }

func (r cricket) valid() bool {
	return terms.Within(1, api.MaxGameRounds, r.Rounds) && zero(r.Last, len(r.Numbers), r.Lives) && none(r.Bull, r.Jump, r.Own)
}

func (r cricket) take(s *stand, h terms.Hit) {
	numbers := [...]int{15, 16, 17, 18, 19, 20, bullNumber}
	if i := slices.Index(numbers[:], h.Number()); i >= 0 {
		r.mark(s, i, h)
	}
	// A miss can win as well: others may have got points since this player closed the last number.
	if r.wins(s) {
		s.win(s.Player)
	}
}

// mark counts the marks of a dart in the i-th number, and gives points for the extra ones.
func (r cricket) mark(s *stand, i int, h terms.Hit) {
	p := s.thrower()
	counted := min(h.Factor(), closed-p.Marks[i])
	p.Marks[i] += counted
	points := (h.Factor() - counted) * h.Number()
	for player := range s.others {
		other := &s.Players[player]
		if other.Marks[i] == closed {
			continue
		}
		if !r.Cut {
			p.Points += points
			return
		}
		other.Points += points
	}
}

// wins reports whether the player who throws has won.
func (r cricket) wins(s *stand) bool {
	p := *s.thrower()
	open := func(marks int) bool { return marks < closed }
	// Nobody has more marks than all, so that only points make anybody better.
	better := func(other api.GamePlayer) bool { return r.compare(other, p) < 0 }
	return !slices.ContainsFunc(p.Marks[:], open) && !slices.ContainsFunc(s.Players, better)
}

func (r cricket) compare(a, b api.GamePlayer) int {
	points := r.usual.compare(a, b)
	if r.Cut {
		points = -points
	}
	return cmp.Or(points, cmp.Compare(total(b.Marks[:]...), total(a.Marks[:]...)))
}

// total returns the sum of numbers.
func total(numbers ...int) int {
	sum := 0
	for _, n := range numbers {
		sum += n
	}
	return sum
}
