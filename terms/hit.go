package terms

import "oche/api"

// Hit is a bed that a dart hits, or a miss.
type Hit struct{ api.Bed }

// Factor returns the factor of the bed.
func (h Hit) Factor() int { return int(h.Bed) / 100 }

// Number returns the number of the bed.
func (h Hit) Number() int { return int(h.Bed) % 100 }

// Score returns the score of the bed.
func (h Hit) Score() int { return h.Factor() * h.Number() }

// Valid reports whether the bed is one.
func (h Hit) Valid() bool {
	if h.Bed == api.Miss || h.Bed == api.Bull || h.Bed == api.Eye {
		return true
	}
	return Within(1, api.MaxFactor, h.Factor()) && Within(1, api.MaxNumber, h.Number())
}

// Opens reports whether the bed opens a gate.
func (h Hit) Opens(g api.Gate) bool {
	switch g {
	case api.GateDouble:
		if h.Factor() > 2 {
			return false
		}
		fallthrough
	case api.GateMaster:
		return h.Factor() >= 2
	}
	return h.Bed != api.Miss
}

// Bust reports whether the dart is bust for a player who is in and has so much left, with this gate out.
func (h Hit) Bust(left int, out api.Gate) bool {
	switch rest := left - h.Score(); rest {
	case 0:
		return !h.Opens(out)
	case 1:
		return out != api.GateAny
	default:
		return rest < 0
	}
}
