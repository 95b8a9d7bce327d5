package board_test

import (
	"math"
	"math/rand/v2"
	"slices"

	"oche/api"
)

// at returns a point.
func at(x, y int) api.BoardPoint { return api.BoardPoint{X: x, Y: y} }

// list returns its arguments.
func list(x ...int) []int { return x }

// span returns a span.
func span(low, high int) api.Span { return api.Span{Low: low, High: high} }

// box returns a box.
func box(x1, x2, y1, y2 int) api.BoardBox { return api.BoardBox{X: span(x1, x2), Y: span(y1, y2)} }

// quarters returns the board of the chapter's examples.
func quarters(wire int) api.Board {
	return api.Board{
		Eye: 60, Bull: 160, Wire: wire,
		Rings:   []api.BoardRing{{Outer: 990, Factor: 1}, {Outer: 1070, Factor: 3}, {Outer: 1620, Factor: 1}, {Outer: 1700, Factor: 2}},
		Lines:   []api.BoardPoint{at(-1, 1), at(1, 1), at(1, -1), at(-1, -1)},
		Numbers: list(20, 6, 3, 11),
	}
}

// thirds returns a board with uneven sectors, opposite to whose lines there is none, a ring without a score, and factors that are there twice.
func thirds(wire int) api.Board {
	return api.Board{
		Eye: 100, Bull: 200, Wire: wire,
		Rings:   []api.BoardRing{{Outer: 1000, Factor: 4}, {Outer: 2000}, {Outer: 3000, Factor: 1}, {Outer: 4000, Factor: 4}},
		Lines:   []api.BoardPoint{at(3, 4), at(4, -3), at(-5, 0)},
		Numbers: list(1, 20, 7),
	}
}

// club returns a board with twenty sectors.
func club(wire int) api.Board {
	b := quarters(wire)
	b.Eye, b.Bull = 64, 159
	b.Lines = []api.BoardPoint{
		at(-156, 988), at(156, 988), at(454, 891), at(707, 707), at(891, 454), at(988, 156), at(988, -156), at(891, -454), at(707, -707), at(454, -891),
		at(156, -988), at(-156, -988), at(-454, -891), at(-707, -707), at(-891, -454), at(-988, -156), at(-988, 156), at(-891, 454), at(-707, 707), at(-454, 891),
	}
	b.Numbers = list(20, 1, 18, 4, 13, 6, 10, 15, 2, 17, 3, 19, 7, 16, 8, 11, 14, 9, 12, 5)
	return b
}

// boards returns valid boards of all sorts.
func boards() []api.Board {
	return []api.Board{quarters(0), quarters(10), thirds(0), thirds(20), club(0), club(6)}
}

// wrongBoards returns a board with each of the errors of Check.
func wrongBoards() map[api.Errno]api.Board {
	long, wrong := quarters(0), quarters(0)
	long.Rings = make([]api.BoardRing, api.MaxBoardRings+1)
	wrong.Wire = -1
	return map[api.Errno]api.Board{api.ErrLong: long, api.ErrArg: wrong}
}

// numbers returns random integers up to most.
func numbers(r *rand.Rand, n, most int) []int {
	l := make([]int, n)
	for i := range l {
		l[i] = r.IntN(most + 1)
	}
	return l
}

// repeat returns a list with the same integer n times.
func repeat(x, n int) []int { return slices.Repeat([]int{x}, n) }

// total returns the sum of a list.
func total(l []int) int {
	sum := 0
	for _, x := range l {
		sum += x
	}
	return sum
}

// cross tells by its sign on which side of a the point b is: below 0 to the right, above 0 to the left.
func cross(a, b api.BoardPoint) int { return a.X*b.Y - a.Y*b.X }

// dot is above 0 if a and b are less than a quarter of a turn apart.
func dot(a, b api.BoardPoint) int { return a.X*b.X + a.Y*b.Y }

// wedges returns all sectors in which a point is, each taken by itself: not left of its own line, and left of the next one.
func wedges(b api.Board, p api.BoardPoint) []int {
	var l []int
	for i, line := range b.Lines {
		next := b.Lines[(i+1)%len(b.Lines)]
		c := cross(line, p)
		if (c < 0 || c == 0 && dot(line, p) > 0) && cross(next, p) > 0 {
			l = append(l, i)
		}
	}
	return l
}

// landing returns the bed of a point and whether it is on a wire, by the text of the chapter.
func landing(b api.Board, p api.BoardPoint) (api.Bed, bool) {
	q, w := dot(p, p), b.Wire
	radii := list(b.Eye, b.Bull)
	for _, r := range b.Rings {
		radii = append(radii, r.Outer)
	}
	rim := radii[len(radii)-1]
	for _, r := range radii {
		if w > 0 && (r-w)*(r-w) <= q && q <= (r+w)*(r+w) {
			return 0, true
		}
	}
	for _, l := range b.Lines {
		c := cross(l, p)
		if w > 0 && b.Bull*b.Bull <= q && q <= rim*rim && dot(l, p) > 0 && c*c <= w*w*dot(l, l) {
			return 0, true
		}
	}
	if q < b.Eye*b.Eye {
		return 225, false
	}
	if q < b.Bull*b.Bull {
		return 125, false
	}
	for _, r := range b.Rings {
		if q >= r.Outer*r.Outer {
			continue
		}
		if r.Factor == 0 {
			return 0, false
		}
		return api.Bed(100*r.Factor + b.Numbers[wedges(b, p)[0]]), false
	}
	return 0, false
}

// around reports whether lines go around the centre once, each less than half a turn from the one before.
func around(lines []api.BoardPoint) bool {
	sum := 0.0
	for i, line := range lines {
		next := lines[(i+1)%len(lines)]
		if cross(line, next) >= 0 {
			return false
		}
		sum += math.Atan2(float64(-cross(line, next)), float64(dot(line, next)))
	}
	return sum < 3*math.Pi
}

// samples returns points of all parts of a board: some that lie on lines, next to them and next to the circles, and some random ones.
func samples(r *rand.Rand, b api.Board) []api.BoardPoint {
	var l []api.BoardPoint
	radii := list(1, b.Eye, b.Bull)
	for _, ring := range b.Rings {
		radii = append(radii, ring.Outer)
	}
	for _, line := range b.Lines {
		for _, radius := range radii {
			k := float64(radius) / math.Hypot(float64(line.X), float64(line.Y))
			x, y := int(k*float64(line.X)), int(k*float64(line.Y))
			l = append(l, at(x, y), at(-x, -y), at(x+r.IntN(41)-20, y+r.IntN(41)-20))
		}
		for k := 1; k*max(line.X, -line.X, line.Y, -line.Y) <= api.MaxBoardPoint; k += 1 + k/2 {
			l = append(l, at(k*line.X, k*line.Y))
		}
	}
	for range 1000 {
		l = append(l, at(r.IntN(2001)-1000, r.IntN(2001)-1000), at(r.IntN(10001)-5000, r.IntN(10001)-5000))
	}
	return slices.DeleteFunc(l, func(p api.BoardPoint) bool { return p == at(0, 0) || max(p.X, -p.X, p.Y, -p.Y) > api.MaxBoardPoint })
}
