package heard

import (
	"slices"

	"oche/api"
	"oche/terms"
)

// stands is how a player can stand after a visit, or before the first one.
type stands map[api.HeardStand]bool

// truths is what all truths of a leg have in common, while it is found: said is what is said of each turn, before how its player can stand before it, and now how each player can stand.
type truths struct {
	told
	said                 map[int][]api.HeardReport
	before, now          []stands
	scores, lefts, darts []api.Span
}

// newTruths returns the truths of a leg before its first turn.
func newTruths(l api.HeardLeg, reports []api.HeardReport) *truths {
	t := &truths{told: tell(l), said: map[int][]api.HeardReport{}}
	for _, r := range reports {
		t.said[r.Turn] = append(t.said[r.Turn], r)
	}
	for range l.Players {
		t.now = append(t.now, stands{terms.Begin(l.Count): true})
	}
	for range l.Turns {
		t.scores, t.lefts, t.darts = append(t.scores, terms.NoSpan()), append(t.lefts, terms.NoSpan()), append(t.darts, terms.NoSpan())
	}
	return t
}

// forward finds how the players can stand before each turn, as far as the turns before it tell, and reports whether there is a truth.
func (t *truths) forward() bool {
	for turn := range t.Turns {
		player := turn % t.Players
		before, after := t.now[player], stands{}
		for stand := range before {
			for v := range t.visits(turn, stand, t.said[turn]...) {
				after[v[1]] = true
			}
		}
		if len(after) == 0 {
			return false
		}
		t.before, t.now[player] = append(t.before, before), after
	}
	return true
}

// backward finds, from the last turn to the first one, the visits that lead to a truth.
func (t *truths) backward() {
	for turn, before := range slices.Backward(t.before) {
		player := turn % t.Players
		for stand := range before {
			if !t.note(turn, stand, t.now[player]) {
				delete(before, stand)
			}
		}
		t.now[player] = before
	}
}

// note widens the spans of a turn by all visits from a stand that end with one of those with which a truth goes on, and reports whether there are any.
func (t *truths) note(turn int, before api.HeardStand, after stands) bool {
	leads := false
	for v, darts := range t.visits(turn, before, t.said[turn]...) {
		if !after[v[1]] {
			continue
		}
		leads = true
		terms.Widen(&t.scores[turn], v.score())
		terms.Widen(&t.lefts[turn], v.left())
		terms.Widen(&t.darts[turn], darts.Low, darts.High)
	}
	return leads
}
