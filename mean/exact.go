package mean

import (
	"slices"

	"oche/api"
	"oche/leg"
	"oche/terms"
)

// counted is a leg while it is counted dart by dart: its laws, what its visits come to, and the stand after them.
type counted struct {
	laws
	api.MeanTotal
	api.HeardStand
}

// begin returns a leg before its first visit.
func begin(l laws) *counted {
	return &counted{l, api.MeanTotal{Legs: 1}, terms.Begin(l.Count)}
}

// take counts the next visit, and returns its score or its error.
func (c *counted) take(visit []api.Bed) (int, api.Errno) {
	if c.Won > 0 {
		return 0, api.ErrOver
	}
	t, e := c.judge(visit)
	if e != api.OK {
		return 0, e
	}
	add(&c.MeanTotal, api.MeanVisit{Darts: exactly(t.Darts), Tried: exactly(c.tried(visit))}, t.Score, t.Won)
	c.Left, c.In = t.Left, t.In
	return t.Score, api.OK
}

// judge returns what the next visit comes to, or its error.
func (c *counted) judge(visit []api.Bed) (api.LegThrow, api.Errno) {
	foreign := func(bed api.Bed) bool { return !slices.Contains(c.hits, terms.Hit{Bed: bed}) }
	at := slices.IndexFunc(visit, foreign)
	if at < 0 {
		return leg.Visit(c.Count, c.In, c.Left, visit)
	}
	// After the end of a visit a bed is one too many, whichever it is.
	if _, e := leg.Visit(c.Count, c.In, c.Left, visit[:at]); e != api.ErrShort {
		return api.LegThrow{}, api.ErrMore
	}
	return api.LegThrow{}, api.ErrNone
}

// tried returns how many darts of the next visit, which is right, are thrown at a finish.
func (c *counted) tried(visit []api.Bed) int {
	n, s := 0, c.HeardStand
	for _, bed := range visit {
		if c.finishes[s] {
			n++
		}
		s, _ = c.throw(terms.Hit{Bed: bed}, s)
	}
	return n
}
