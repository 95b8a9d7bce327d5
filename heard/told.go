package heard

import (
	"iter"
	"slices"

	"oche/api"
)

// visit is a visit by the stands before and after it.
type visit [2]api.HeardStand

// score returns the score of the visit.
func (v visit) score() int { return v[0].Left - v[1].Left }

// left returns what is left after the visit.
func (v visit) left() int { return v[1].Left }

// wins reports whether the visit wins the leg.
func (v visit) wins() bool { return v[1] == won() }

// denies reports whether something that a report says is not so in the visit.
func (v visit) denies(r api.HeardReport) bool {
	return r.Score != unsaid && r.Score != v.score() || r.Left != unsaid && r.Left != v.left()
}

// told is a leg of which reports tell, and the stands whose visits were counted already.
type told struct {
	api.HeardLeg
	known map[api.HeardStand]counted
}

// tell returns a leg without any stand that was counted.
func tell(l api.HeardLeg) told { return told{l, map[api.HeardStand]counted{}} }

// from returns the visits from a stand.
func (t told) from(s api.HeardStand) counted {
	c, ok := t.known[s]
	if !ok {
		c = count(t.HeardLeg, s)
		t.known[s] = c
	}
	return c
}

// visits yields what the visit of a turn can be from a stand, with all that is said of it right, and how many darts it can have.
func (t told) visits(turn int, before api.HeardStand, said ...api.HeardReport) iter.Seq2[visit, api.Span] {
	wins := t.Won && turn == t.Turns-1
	return func(yield func(visit, api.Span) bool) {
		for after, n := range t.from(before).ends {
			v := visit{before, after}
			if v.wins() == wins && !slices.ContainsFunc(said, v.denies) && !yield(v, n.darts) {
				return
			}
		}
	}
}
