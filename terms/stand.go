package terms

import "oche/api"

// Begin returns the stand of a player before the first visit of a leg.
func Begin(c api.Count) api.HeardStand {
	return api.HeardStand{Left: c.Start, In: c.In == api.GateAny}
}

// Lowest returns what is left at least while a leg with this gate out is not won.
func Lowest(out api.Gate) int {
	if out == api.GateAny {
		return 1
	}
	return 2
}

// ValidStand reports whether so much can be left, by valid laws, for a player who is in or, with nothing scored, not.
func ValidStand(c api.Count, s api.HeardStand) bool {
	return Within(Lowest(c.Out), c.Start, s.Left) && (s.In || s.Left == c.Start)
}

// ValidPosition reports whether a visit of a player who is in, and has at most so much left, can come to a position.
func ValidPosition(most int, out api.Gate, p api.AimPosition) bool {
	lowest := Lowest(out)
	if !Within(lowest, most, p.Start) || !Within(lowest, p.Start, p.Left) || !Within(1, api.Darts, p.Darts) {
		return false
	}
	return p.Darts < api.Darts || p.Left == p.Start
}

// From returns the stand of a player after a dart, or the stand before it if the dart is bust; with 0 left the leg is won.
func (h Hit) From(s api.HeardStand, c api.Count) (after api.HeardStand, bust bool) {
	if !s.In && !h.Opens(c.In) {
		return s, false
	}
	if h.Bust(s.Left, c.Out) {
		return s, true
	}
	return api.HeardStand{Left: s.Left - h.Score(), In: true}, false
}
