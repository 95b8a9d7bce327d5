package game

import (
	"slices"

	"oche/api"
	"oche/terms"
)

// killer is a game in which players shoot away the lives of others.
type killer struct{ usual }

func (r killer) valid() bool {
	return len(r.Numbers) == r.Players && terms.Within(1, api.MaxNumber, r.Numbers...) && terms.Distinct(r.Numbers) &&
		terms.Within(1, api.MaxGameLives, r.Lives) && zero(r.Last, r.Rounds) && none(r.Bull, r.Jump, r.Cut)
}

func (r killer) take(s *stand, h terms.Hit) {
	hit := slices.Index(r.Numbers, h.Number())
	if h.Factor() != 2 || hit < 0 {
		return
	}
	was := s.thrower().Killer
	if hit == s.Player {
		s.thrower().Killer = true
	}
	if was && r.shoots(s, hit) {
		s.Players[hit].Points--
	}
	in := slices.DeleteFunc(s.everyone(), func(player int) bool { return r.out(s.Players[player]) })
	if len(in) == 1 {
		s.win(in...)
	}
}

// shoots reports whether a killer who throws can take a life of a player.
func (r killer) shoots(s *stand, player int) bool {
	return !r.out(s.Players[player]) && (r.Own || player != s.Player)
}

func (killer) out(p api.GamePlayer) bool { return p.Points == 0 }
