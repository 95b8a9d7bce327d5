package mean

import (
	"iter"
	"slices"

	"oche/api"
	"oche/terms"
)

// goal is what a visit must come to: the stands before and after it, and whether it wins.
type goal struct {
	before, after api.HeardStand
	win           bool
}

// reached reports whether a visit reaches the goal, of which the last dart is given by the stand after it and what it does.
func (g goal) reached(last api.HeardStand, does effect) bool {
	if does == busts {
		last = g.before
	}
	return last == g.after && g.win == (does == wins)
}

// goals yields the goals of the visits of a leg.
func goals(l api.MeanLeg) iter.Seq[goal] {
	return func(yield func(goal) bool) {
		before := terms.Begin(l.Count)
		for visit, score := range l.Scores {
			after := api.HeardStand{Left: before.Left - score, In: before.In || score > 0}
			if !yield(goal{before, after, wonBy(l, visit)}) {
				return
			}
			before = after
		}
	}
}

// visits yields the goals of the visits of a leg, and the ends of all visits that reach them.
func visits(l api.MeanLeg) iter.Seq2[goal, ends] {
	return func(yield func(goal, ends) bool) {
		laws, known := newLaws(l.Count, l.Beds), map[goal]ends{}
		for g := range goals(l) {
			if known[g] == nil {
				known[g] = laws.reach(g)
			}
			if !yield(g, known[g]) {
				return
			}
		}
	}
}

// each returns what is wanted of each visit of a leg, or the number of the first one that is not possible.
func each[T any](l api.MeanLeg, wanted func(ends) T) ([]T, int, api.Errno) {
	var list []T
	for _, possible := range visits(l) {
		if len(possible) == 0 {
			return nil, len(list), api.ErrNone
		}
		list = append(list, wanted(possible))
	}
	return list, 0, api.OK
}

// path is the darts of a visit, with misses for those that are not thrown.
type path [api.Darts]api.Bed

// state is a stand within a visit, and how many of its darts were thrown at a finish.
type state struct {
	api.HeardStand
	tried int
}

// reach returns the ends of all visits that reach a goal.
func (l laws) reach(g goal) ends {
	found := ends{}
	going := map[state]path{{HeardStand: g.before}: {}}
	for dart := range api.Darts {
		going = l.dart(dart, g, going, found)
	}
	return found
}

// dart throws the dart with this number of all visits that go on, keeps those that are at their end with it and reach the goal, and returns those that go on after it.
func (l laws) dart(number int, g goal, going map[state]path, found ends) map[state]path {
	next := map[state]path{}
	for s, p := range going {
		tried := s.tried
		if l.finishes[s.HeardStand] {
			tried++
		}
		for _, hit := range l.hits {
			p[number] = hit.Bed
			after, does := l.throw(hit, s.HeardStand)
			switch {
			case does != goesOn || number == api.Darts-1:
				if g.reached(after, does) {
					keep(found, end{number + 1, tried}, p)
				}
			// Who has scored too much can only be bust, which scores nothing.
			case g.before == g.after || after.Left >= g.after.Left:
				keep(next, state{after, tried}, p)
			}
		}
	}
	return next
}

// keep keeps the smallest one of all paths with a key.
func keep[K comparable](smallest map[K]path, key K, p path) {
	if old, ok := smallest[key]; !ok || slices.Compare(p[:], old[:]) < 0 {
		smallest[key] = p
	}
}
