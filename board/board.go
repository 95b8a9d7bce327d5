// Package board is layer 1: in which bed of a board a point lies, and how the ring of numbers is turned so that the board wears evenly.
package board

import (
	"iter"
	"maps"
	"slices"

	"oche/api"
	"oche/terms"
)

// How many lines a board has at least, and at most.
const (
	fewestLines = 3
	mostLines   = 20
)

// Check returns ErrLong for a board with too long lists, and ErrArg for one that is not valid.
func Check(b api.Board) api.Errno {
	t := target{b}
	if t.long() {
		return api.ErrLong
	}
	if !t.valid() {
		return api.ErrArg
	}
	return api.OK
}

// Bed returns the bed of a dart at a point, and whether it is on a wire.
func Bed(b api.Board, p api.BoardPoint) (bed api.Bed, wire bool, e api.Errno) {
	if e := Check(b); e != api.OK {
		return 0, false, e
	}
	if !validPoint(p) {
		return 0, false, api.ErrArg
	}
	bed, wire = throw{target{b}, direction{p}}.bed()
	return bed, wire, api.OK
}

// Beds returns all beds of the points of a box, each once, in ascending order.
func Beds(b api.Board, x api.BoardBox) ([]api.Bed, api.Errno) {
	if e := Check(b); e != api.OK {
		return nil, e
	}
	if !terms.ValidSpans(-api.MaxBoardPoint, api.MaxBoardPoint, x.X, x.Y) {
		return nil, api.ErrArg
	}
	if size(x.X)*size(x.Y) > api.MaxBoardBox {
		return nil, api.ErrFull
	}
	seen := map[api.Bed]bool{}
	for p := range points(x) {
		bed, _ := throw{target{b}, direction{p}}.bed()
		seen[bed] = true
	}
	return slices.Sorted(maps.Keys(seen)), api.OK
}

// size returns how many integers a valid span has.
func size(s api.Span) int { return s.High - s.Low + 1 }

// points yields all points of a box.
func points(x api.BoardBox) iter.Seq[api.BoardPoint] {
	return func(yield func(api.BoardPoint) bool) {
		for column := range size(x.X) {
			for row := range size(x.Y) {
				if !yield(api.BoardPoint{X: x.X.Low + column, Y: x.Y.Low + row}) {
					return
				}
			}
		}
	}
}

// All returns all beds that a board has, without the miss, in ascending order.
func All(b api.Board) ([]api.Bed, api.Errno) {
	if e := Check(b); e != api.OK {
		return nil, e
	}
	seen := map[api.Bed]bool{api.Eye: true, api.Bull: true}
	for _, r := range b.Rings {
		for _, n := range b.Numbers {
			seen[bedOf(r.Factor, n)] = true
		}
	}
	delete(seen, api.Miss)
	return slices.Sorted(maps.Keys(seen)), api.OK
}
