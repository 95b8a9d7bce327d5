package mean

import (
	"oche/api"
	"oche/terms"
)

// effect is what a dart does.
type effect int

// The effects of darts.
const (
	goesOn effect = iota
	busts
	wins
)

// laws is how a leg is counted, what a dart can hit, and the stands from which one of the beds wins.
type laws struct {
	api.Count
	hits     []terms.Hit
	finishes map[api.HeardStand]bool
}

// newLaws returns the laws of a leg, of which the laws and beds are valid.
func newLaws(c api.Count, beds []api.Bed) laws {
	l := laws{c, []terms.Hit{{Bed: api.Miss}}, map[api.HeardStand]bool{}}
	for _, bed := range beds {
		hit := terms.Hit{Bed: bed}
		l.hits = append(l.hits, hit)
		for _, in := range [...]bool{false, true} {
			// A bed can only win where its own score is left.
			s := api.HeardStand{Left: hit.Score(), In: in}
			if _, does := l.throw(hit, s); does == wins {
				l.finishes[s] = true
			}
		}
	}
	return l
}

// throw returns the stand after a dart, or the one before it if the dart is bust, and what the dart does.
func (l laws) throw(h terms.Hit, s api.HeardStand) (api.HeardStand, effect) {
	after, bust := h.From(s, l.Count)
	switch {
	case bust:
		return after, busts
	case after.Left == 0:
		return after, wins
	default:
		return after, goesOn
	}
}
