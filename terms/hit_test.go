package terms_test

import (
	"math"
	"testing"

	"oche/api"
	"oche/terms"
)

// known is what DOC.md says of a bed.
type known struct{ factor, number int }

// beds returns all beds.
func beds() map[api.Bed]known {
	l := map[api.Bed]known{api.Miss: {}, api.Bull: {1, 25}, api.Eye: {2, 25}}
	for factor := 1; factor <= 4; factor++ {
		for number := 1; number <= 20; number++ {
			l[api.Bed(100*factor+number)] = known{factor, number}
		}
	}
	return l
}

// DOC.md, Bed: no other value is a bed.
func TestValid(t *testing.T) {
	l := beds()
	for bed := api.Bed(-600); bed < 1200; bed++ {
		if _, want := l[bed]; (terms.Hit{Bed: bed}).Valid() != want {
			t.Error(bed, !want)
		}
	}
	for _, bed := range []api.Bed{math.MinInt, math.MaxInt, math.MinInt + 8, math.MaxInt - 6} {
		if (terms.Hit{Bed: bed}).Valid() {
			t.Error(bed)
		}
	}
}

// DOC.md, Bed: the score is F * N, and 0 for a miss.
func TestScore(t *testing.T) {
	for bed, k := range beds() {
		h := terms.Hit{Bed: bed}
		if h.Factor() != k.factor || h.Number() != k.number || h.Score() != k.factor*k.number {
			t.Error(bed, h.Factor(), h.Number(), h.Score())
		}
	}
}

// DOC.md, Gate: which beds open which gate.
func TestOpens(t *testing.T) {
	for bed, k := range beds() {
		h := terms.Hit{Bed: bed}
		for gate, want := range map[api.Gate]bool{api.GateAny: bed != api.Miss, api.GateDouble: k.factor == 2, api.GateMaster: k.factor >= 2} {
			if got := h.Opens(gate); got != want {
				t.Error(bed, gate, got)
			}
		}
	}
}

// C2: what is bust, for each bed and gate, from each score on which it can matter.
func TestBust(t *testing.T) {
	for bed, k := range beds() {
		h := terms.Hit{Bed: bed}
		for left := 2; left <= 90; left++ {
			rest := left - k.factor*k.number
			for gate, opens := range map[api.Gate]bool{api.GateAny: bed != api.Miss, api.GateDouble: k.factor == 2, api.GateMaster: k.factor >= 2} {
				goesOn := bed == api.Miss || rest == 0 && opens || rest >= 2 || rest == 1 && gate == api.GateAny
				if got := h.Bust(left, gate); got == goesOn {
					t.Error(bed, left, gate, got)
				}
			}
		}
	}
	// With GateAny a player can have 1 left: a miss leaves it, and only the single 1 ends it.
	for bed := range beds() {
		if got := (terms.Hit{Bed: bed}).Bust(1, api.GateAny); got != (bed != api.Miss && bed != 101) {
			t.Error(bed, got)
		}
	}
}
