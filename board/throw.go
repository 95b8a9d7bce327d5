package board

import (
	"slices"

	"oche/api"
)

// throw is a dart at a valid board, and where it lands.
type throw struct {
	target
	direction
}

// bed returns the bed of the dart, and whether it is on a wire.
func (t throw) bed() (bed api.Bed, wire bool) {
	if t.Wire > 0 && (t.onCircle() || t.onLine()) {
		return api.Miss, true
	}
	q := t.square()
	if q < t.Eye*t.Eye {
		return api.Eye, false
	}
	if q < t.Bull*t.Bull {
		return api.Bull, false
	}
	ring := slices.IndexFunc(t.Rings, func(r api.BoardRing) bool { return q < r.Outer*r.Outer })
	if ring < 0 {
		return api.Miss, false
	}
	return bedOf(t.Rings[ring].Factor, t.Numbers[t.sector(t.direction)]), false
}

// onCircle reports whether the dart is on the wire of a circle.
func (t throw) onCircle() bool {
	q := t.square()
	for radius := range t.radii() {
		inner, outer := radius-t.Wire, radius+t.Wire
		if q >= inner*inner && q <= outer*outer {
			return true
		}
	}
	return false
}

// onLine reports whether the dart is on the wire of a line.
func (t throw) onLine() bool {
	q, rim := t.square(), t.rim()
	if q < t.Bull*t.Bull || q > rim*rim {
		return false
	}
	near := func(p api.BoardPoint) bool {
		line := direction{p}
		c := line.cross(t.direction)
		return line.dot(t.direction) > 0 && c*c <= t.Wire*t.Wire*line.square()
	}
	return slices.ContainsFunc(t.Lines, near)
}

// bedOf returns the bed of a number in a ring with a factor.
func bedOf(factor, number int) api.Bed {
	if factor == 0 {
		return api.Miss
	}
	return api.Bed(100*factor + number)
}
