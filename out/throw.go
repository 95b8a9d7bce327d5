package out

import (
	"iter"
	"slices"

	"oche/api"
)

// within reports whether all numbers are from low to high.
func within(low, high int, numbers ...int) bool {
	outside := func(n int) bool { return n < low || n > high }
	return !slices.ContainsFunc(numbers, outside)
}

// validGates reports whether each of the gates is one of the three.
func validGates(gates ...api.Gate) bool {
	wrong := func(g api.Gate) bool { return g != api.GateAny && g != api.GateDouble && g != api.GateMaster }
	return !slices.ContainsFunc(gates, wrong)
}

// validBeds reports whether a list of beds is valid.
func validBeds(beds []api.Bed) bool {
	if !within(1, api.MaxOutBeds, len(beds)) {
		return false
	}
	for i, bed := range beds {
		if !(target{bed}).valid() || i > 0 && bed <= beds[i-1] {
			return false
		}
	}
	return true
}

// target is a bed that is thrown at.
type target struct{ api.Bed }

// factor returns the factor of the bed.
func (t target) factor() int { return int(t.Bed) / 100 }

// number returns the number of the bed.
func (t target) number() int { return int(t.Bed) % 100 }

// score returns the score of the bed.
func (t target) score() int { return t.factor() * t.number() }

// valid reports whether the bed is one, and no miss.
func (t target) valid() bool {
	if t.Bed == api.Bull || t.Bed == api.Eye {
		return true
	}
	return within(1, api.MaxFactor, t.factor()) && within(1, api.MaxNumber, t.number())
}

// opens reports whether the bed opens a gate.
func (t target) opens(g api.Gate) bool {
	switch g {
	case api.GateDouble:
		return t.factor() == 2
	case api.GateMaster:
		return t.factor() >= 2
	}
	return true
}

// throw is a target that is hit, and the score that was left before.
type throw struct {
	target
	before int
}

// left returns what is left after the throw, unless it is bust.
func (t throw) left() int { return t.before - t.score() }

// bust reports whether the throw is bust, with this gate out.
func (t throw) bust(out api.Gate) bool {
	switch t.left() {
	case 0:
		return !t.opens(out)
	case 1:
		return out != api.GateAny
	}
	return t.left() < 0
}

// throws yields the throws at all beds of the rules with a score left, but for those that are bust.
func throws(r api.OutRules, score int) iter.Seq[throw] {
	return func(yield func(throw) bool) {
		for _, bed := range r.Beds {
			t := throw{target{bed}, score}
			if !t.bust(r.Out) && !yield(t) {
				return
			}
		}
	}
}
