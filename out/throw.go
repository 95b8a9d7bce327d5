package out

import (
	"iter"

	"oche/api"
	"oche/terms"
)

// throw is a bed that is hit, and the score that was left before.
type throw struct {
	terms.Hit
	before int
}

// left returns what is left after the throw, unless it is bust.
func (t throw) left() int { return t.before - t.Score() }

// throws yields the throws at all beds of the rules with a score left, but for those that are bust.
func throws(r api.OutRules, score int) iter.Seq[throw] {
	return func(yield func(throw) bool) {
		for _, bed := range r.Beds {
			t := throw{terms.Hit{Bed: bed}, score}
			if !t.Bust(score, r.Out) && !yield(t) {
				return
			}
		}
	}
}
