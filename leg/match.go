package leg

import (
	"oche/api"
	"oche/terms"
)

// match is a match while it is played, and its laws; who throws first is known from the rest.
type match struct {
	api.LegScore
	laws api.LegMatch
}

// validMatch reports whether a match is valid.
func validMatch(m api.LegMatch) bool {
	return terms.Within(1, api.MaxLegs, m.Legs) && terms.Within(1, api.MaxSets, m.Sets) && terms.Within(1, 2, m.Clear) &&
		terms.Within(0, api.MaxLegs, m.Extra) && terms.Within(0, 1, m.First)
}

// take counts a leg for its winner.
func (m *match) take(winner int) {
	m.Legs[winner]++
	if !m.winsSet(winner) {
		return
	}
	m.Sets[winner]++
	if m.Sets[winner] == m.laws.Sets {
		m.Winner = winner
		return
	}
	m.Legs = [2]int{}
}

// winsSet reports whether the winner of the last leg has won the set as well.
func (m *match) winsSet(winner int) bool {
	legs, ahead := m.Legs[winner], m.Legs[winner]-m.Legs[1-winner]
	before := m.laws.Sets - 1
	if m.Sets != [2]int{before, before} {
		return legs == m.laws.Legs
	}
	return legs >= m.laws.Legs && ahead >= m.laws.Clear || legs == m.laws.Legs+m.laws.Extra
}

// next returns who throws first in the next leg.
func (m *match) next() int {
	if m.Winner != nobody {
		return nobody
	}
	// Each leg of a set turns it round, and so does each set, whatever the number of its legs was.
	turns := m.Sets[0] + m.Sets[1] + m.Legs[0] + m.Legs[1]
	return (m.laws.First + turns) % 2
}
