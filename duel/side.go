package duel

import (
	"slices"

	"oche/api"
	"oche/terms"
)

// side is rules with a table of one side of what is known: of chances that are sure, or, if most is set, of chances that nobody exceeds.
type side struct {
	api.DuelRules
	most  bool
	table [][]int
}

// found returns a side with the table that is found for it.
func found(r api.DuelRules, most bool) side {
	s := side{r, most, make([][]int, len(r.Ends))}
	// A round needs the numbers of the next one.
	for round := range slices.Backward(s.table) {
		s.table[round] = make([]int, r.Start+1)
		for score := terms.Lowest(r.Out); score <= r.Start; score++ {
			s.table[round][score] = s.value(round, score)
		}
	}
	return s
}

// value returns the value of a visit before its first dart, by the numbers of the next round.
func (s side) value(round, score int) int {
	return s.visit(round, score).value(place{score, api.Darts})
}

// visit returns a visit of a round, with so much left before it.
func (s side) visit(round, start int) visit {
	return visit{s, round, start, map[place]int{}}
}

// holds reports whether the inequality of a round and a score holds.
func (s side) holds(round, score int) bool {
	number, value := s.table[round][score], s.value(round, score)
	if s.most {
		return number >= value
	}
	return number <= value
}

// after returns the value after a visit of a round by which so much is left.
func (s side) after(round, left int) int {
	if round == len(s.Ends)-1 {
		return 0
	}
	number, ends := s.table[round+1][left], s.Ends[round]
	// The less often the opponent ends the leg, the better.
	return s.part(api.Span{Low: number * (api.Whole - ends.High), High: number * (api.Whole - ends.Low)}, api.Whole)
}

// part returns the end of a span for this side, divided, and rounded so that what the table says stays true.
func (s side) part(sum api.Span, by int) int {
	if s.most {
		return (sum.High + by - 1) / by
	}
	return sum.Low / by
}
