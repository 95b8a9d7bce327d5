package board

import (
	"iter"
	"slices"

	"oche/api"
	"oche/terms"
)

// target is a board at which darts are thrown.
type target struct{ api.Board }

// long reports whether a list of the board is too long.
func (t target) long() bool {
	return len(t.Rings) > api.MaxBoardRings || len(t.Lines) > mostLines || len(t.Numbers) > mostLines
}

// valid reports whether a board whose lists are not too long is valid.
func (t target) valid() bool {
	return terms.Within(0, api.MaxBoardWire, t.Wire) && t.validRings() && t.validNumbers() && t.validLines()
}

// validRings reports whether factors and radii are valid, for a valid Wire.
func (t target) validRings() bool {
	wrong := func(r api.BoardRing) bool { return !terms.Within(0, api.MaxFactor, r.Factor) }
	if len(t.Rings) == 0 || slices.ContainsFunc(t.Rings, wrong) {
		return false
	}
	above := t.Wire
	for radius := range t.radii() {
		if radius <= above || radius > api.MaxBoardPoint {
			return false
		}
		above = radius + 2*t.Wire
	}
	return true
}

// radii yields the radii of all circles, from the inner one on.
func (t target) radii() iter.Seq[int] {
	return func(yield func(int) bool) {
		if !yield(t.Eye) || !yield(t.Bull) {
			return
		}
		for _, r := range t.Rings {
			if !yield(r.Outer) {
				return
			}
		}
	}
}

// rim returns the radius of the last circle.
func (t target) rim() int { return t.Rings[len(t.Rings)-1].Outer }

// validNumbers reports whether the numbers are valid, and as many as the lines.
func (t target) validNumbers() bool {
	return len(t.Numbers) == len(t.Lines) && terms.Within(1, api.MaxNumber, t.Numbers...) && terms.Distinct(t.Numbers)
}

// validLines reports whether the lines are points and go around the centre once.
func (t target) validLines() bool {
	// A product of coordinates could overflow before they are known to be those of points.
	wrong := func(p api.BoardPoint) bool { return p == api.BoardPoint{} || !validPoint(p) }
	if len(t.Lines) < fewestLines || slices.ContainsFunc(t.Lines, wrong) {
		return false
	}
	first := t.line(0)
	for i := range t.Lines {
		line, next := t.line(i), t.line((i+1)%len(t.Lines))
		if line.partTo(next) != right {
			return false
		}
		if i > 0 && !first.sooner(t.line(i-1), line) {
			return false
		}
	}
	return true
}

// validPoint reports whether a point is valid.
func validPoint(p api.BoardPoint) bool {
	return terms.Within(-api.MaxBoardPoint, api.MaxBoardPoint, p.X, p.Y)
}

// line returns a line as a direction.
func (t target) line(i int) direction { return direction{t.Lines[i]} }

// sector returns the sector of a point that is not the centre.
func (t target) sector(d direction) int {
	first, sector := t.line(0), 0
	for i := range t.Lines {
		if !first.sooner(d, t.line(i)) {
			sector = i
		}
	}
	return sector
}
