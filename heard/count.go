package heard

import (
	"oche/api"
	"oche/terms"
)

// won is the end of a visit that wins the leg.
func won() api.HeardStand { return api.HeardStand{In: true} }

// tally is how many visits there are, and the least span of how many darts they have.
type tally struct {
	ways  int
	darts api.Span
}

// counted is the visits of a leg from a stand, counted for each of their ends.
type counted struct {
	api.HeardLeg
	api.HeardStand
	ends map[api.HeardStand]tally
}

// count counts all visits from a stand.
func count(l api.HeardLeg, s api.HeardStand) counted {
	c := counted{l, s, map[api.HeardStand]tally{}}
	going := map[api.HeardStand]int{s: 1}
	for fewer := range api.Darts {
		going = c.dart(going, fewer+1)
	}
	for stand, ways := range going {
		c.end(stand, ways, api.Darts)
	}
	return c
}

// dart counts the visits that have their last dart now, if it is bust or wins, and returns by how many ways the others go on from which stands.
func (c counted) dart(going map[api.HeardStand]int, darts int) map[api.HeardStand]int {
	next := map[api.HeardStand]int{}
	beds := append([]api.Bed{api.Miss}, c.Beds...)
	for stand, ways := range going {
		for _, bed := range beds {
			after, bust := terms.Hit{Bed: bed}.From(stand, c.Count)
			switch {
			case bust:
				c.end(c.HeardStand, ways, darts)
			case after == won():
				c.end(after, ways, darts)
			default:
				next[after] += ways
			}
		}
	}
	return next
}

// end counts visits that end with a stand; those with fewer darts are counted first.
func (c counted) end(s api.HeardStand, ways, darts int) {
	t := c.ends[s]
	if t.ways == 0 {
		t.darts.Low = darts
	}
	t.darts.High = darts
	t.ways += ways
	c.ends[s] = t
}

// score returns the score of a visit with an end.
func (c counted) score(end api.HeardStand) int { return c.Left - end.Left }
