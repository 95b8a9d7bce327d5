package game

import (
	"oche/api"
	"oche/terms"
)

// round is a game in which numbers are hit in order.
type round struct{ usual }

func (round) fewest() int { return 1 }

func (r round) valid() bool {
	return terms.Within(1, api.MaxNumber, r.Last) && zero(r.Rounds, len(r.Numbers), r.Lives) && none(r.Cut, r.Own)
}

func (r round) take(s *stand, h terms.Hit) {
	p := s.thrower()
	if h.Number() != r.target(p.Points) {
		return
	}
	step := 1
	if r.Jump {
		step = h.Factor()
	}
	// A number leads up to Last at most; behind it there is only the bull, which is one target.
	p.Points = min(p.Points+step, max(p.Points+1, r.Last))
	if p.Points == r.targets() {
		s.win(s.Player)
	}
}

// target returns the target of a player who has hit so many, but not all.
func (r round) target(hit int) int {
	if hit == r.Last {
		return bullNumber
	}
	return hit + 1
}

// targets returns how many targets there are.
func (r round) targets() int {
	if r.Bull {
		return r.Last + 1
	}
	return r.Last
}
