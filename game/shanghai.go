package game

import (
	"oche/api"
	"oche/terms"
)

// shanghai is a game that is scored number by number.
type shanghai struct{ usual }

func (r shanghai) valid() bool {
	return terms.Within(1, api.MaxGameRounds, r.Rounds) && zero(r.Last, len(r.Numbers), r.Lives) && none(r.Bull, r.Jump, r.Cut, r.Own)
}

func (r shanghai) take(s *stand, h terms.Hit) {
	if h.Number() != s.Round+1 {
		return
	}
	s.thrower().Points += h.Score()
	s.factors[h.Factor()] = true
	if s.factors[1] && s.factors[2] && s.factors[3] {
		s.win(s.Player)
	}
}
