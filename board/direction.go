package board

import "oche/api"

// direction is a point as it is seen from the centre.
type direction struct{ api.BoardPoint }

// part is a part of a clockwise turn.
type part int

// The parts of a turn, in the order in which a turn comes to them.
const (
	ahead part = iota
	right
	behind
	left
)

// cross is below 0 if the other direction is to the right, and above 0 if it is to the left.
func (d direction) cross(other direction) int { return d.X*other.Y - d.Y*other.X }

// dot is above 0 if the other direction is less than a quarter of a turn away, to either side.
func (d direction) dot(other direction) int { return d.X*other.X + d.Y*other.Y }

// square returns the square of the distance from the centre.
func (d direction) square() int { return d.dot(d) }

// partTo returns the part of a turn in which the angle to another direction is.
func (d direction) partTo(other direction) part {
	c := d.cross(other)
	switch {
	case c < 0:
		return right
	case c > 0:
		return left
	case d.dot(other) > 0:
		return ahead
	}
	return behind
}

// sooner reports whether a turn from the direction comes to a before it comes to b.
func (d direction) sooner(a, b direction) bool {
	toA, toB := d.partTo(a), d.partTo(b)
	if toA != toB {
		return toA < toB
	}
	// Both are in one half of the turn, so that the short way from a to b tells which one is first.
	return a.partTo(b) == right
}
