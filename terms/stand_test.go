package terms_test

import (
	"math"
	"testing"

	"oche/api"
	"oche/terms"
)

// in and notIn return stands.
func in(left int) api.HeardStand { return api.HeardStand{Left: left, In: true} }

func notIn(left int) api.HeardStand { return api.HeardStand{Left: left} }

// C1: Start is left, and the player is in only with GateAny.
func TestBegin(t *testing.T) {
	for _, c := range []struct {
		c    api.Count
		want api.HeardStand
	}{
		{api.Count{Start: 501}, in(501)}, {api.Count{Start: 2, Out: api.GateMaster}, in(2)}, {api.Count{Start: 301, In: api.GateDouble}, notIn(301)}, {api.Count{Start: 1001, In: api.GateMaster, Out: api.GateDouble}, notIn(1001)},
	} {
		if got := terms.Begin(c.c); got != c.want {
			t.Error(c.c, got)
		}
	}
}

// C2: 1 is left at least if Out is GateAny, otherwise 2; who is not in has scored nothing.
func TestValidStand(t *testing.T) {
	for _, c := range []struct {
		out  api.Gate
		s    api.HeardStand
		want bool
	}{
		{api.GateAny, in(1), true}, {api.GateDouble, in(2), true}, {api.GateMaster, in(2), true}, {api.GateAny, in(40), true}, {api.GateDouble, in(39), true}, {api.GateDouble, notIn(40), true}, {api.GateAny, notIn(40), true},
		{api.GateAny, in(0), false}, {api.GateDouble, in(1), false}, {api.GateMaster, in(1), false}, {api.GateAny, in(41), false}, {api.GateAny, in(-1), false}, {api.GateAny, notIn(39), false}, {api.GateAny, notIn(41), false}, {api.GateDouble, notIn(0), false}, {api.GateAny, in(math.MinInt), false}, {api.GateAny, in(math.MaxInt), false},
	} {
		if got := terms.ValidStand(api.Count{Start: 40, In: api.GateDouble, Out: c.out}, c.s); got != c.want {
			t.Error(c.out, c.s, got)
		}
	}
	for gate, want := range map[api.Gate]int{api.GateAny: 1, api.GateDouble: 2, api.GateMaster: 2} {
		if got := terms.Lowest(gate); got != want {
			t.Error(gate, got)
		}
	}
}

// A visit starts with what can be left, leaves no more than this, and has nothing scored before its first dart.
func TestValidPosition(t *testing.T) {
	for _, c := range []struct {
		out  api.Gate
		p    api.AimPosition
		want bool
	}{
		{api.GateDouble, api.AimPosition{Start: 40, Left: 40, Darts: 3}, true}, {api.GateMaster, api.AimPosition{Start: 2, Left: 2, Darts: 3}, true}, {api.GateAny, api.AimPosition{Start: 1, Left: 1, Darts: 3}, true}, {api.GateDouble, api.AimPosition{Start: 40, Left: 40, Darts: 2}, true}, {api.GateDouble, api.AimPosition{Start: 40, Left: 2, Darts: 2}, true}, {api.GateDouble, api.AimPosition{Start: 39, Left: 17, Darts: 1}, true}, {api.GateAny, api.AimPosition{Start: 40, Left: 1, Darts: 1}, true},
		{api.GateDouble, api.AimPosition{Start: 41, Left: 40, Darts: 2}, false}, {api.GateDouble, api.AimPosition{Start: 1, Left: 1, Darts: 3}, false}, {api.GateMaster, api.AimPosition{Start: 40, Left: 1, Darts: 2}, false}, {api.GateAny, api.AimPosition{}, false}, {api.GateAny, api.AimPosition{Darts: 3}, false}, {api.GateAny, api.AimPosition{Start: 40, Darts: 2}, false}, {api.GateDouble, api.AimPosition{Start: 17, Left: 18, Darts: 2}, false}, {api.GateDouble, api.AimPosition{Start: 17, Left: 18, Darts: 3}, false}, {api.GateDouble, api.AimPosition{Start: 17, Left: 16, Darts: 3}, false}, {api.GateDouble, api.AimPosition{Start: 17, Left: 17}, false}, {api.GateDouble, api.AimPosition{Start: 17, Left: 17, Darts: 4}, false},
		{api.GateAny, api.AimPosition{Start: math.MaxInt, Left: 1, Darts: 1}, false}, {api.GateAny, api.AimPosition{Start: math.MinInt, Left: math.MinInt, Darts: 3}, false}, {api.GateAny, api.AimPosition{Start: 40, Left: math.MinInt, Darts: 1}, false}, {api.GateAny, api.AimPosition{Start: 40, Left: 40, Darts: math.MinInt}, false}, {api.GateAny, api.AimPosition{Start: 40, Left: 40, Darts: math.MaxInt}, false},
	} {
		if got := terms.ValidPosition(40, c.out, c.p); got != c.want {
			t.Error(c.out, c.p, got)
		}
	}
}

// C2: what a dart does to each stand, for each bed and all gates.
func TestFrom(t *testing.T) {
	gates := []api.Gate{api.GateAny, api.GateDouble, api.GateMaster}
	opens := func(k known, gate api.Gate) bool {
		return map[api.Gate]bool{api.GateAny: k.factor > 0, api.GateDouble: k.factor == 2, api.GateMaster: k.factor >= 2}[gate]
	}
	for bed, k := range beds() {
		for _, gateIn := range gates {
			for _, gateOut := range gates {
				c := api.Count{Start: 90, In: gateIn, Out: gateOut}
				for left := terms.Lowest(gateOut); left <= 90; left++ {
					for _, s := range []api.HeardStand{in(left), notIn(left)} {
						want, wantBust := s, false
						if rest := left - k.factor*k.number; s.In && k.factor > 0 || !s.In && opens(k, gateIn) {
							wantBust = !(rest == 0 && opens(k, gateOut) || rest >= 2 || rest == 1 && gateOut == api.GateAny)
							if !wantBust {
								want = in(rest)
							}
						}
						if got, bust := (terms.Hit{Bed: bed}).From(s, c); got != want || bust != wantBust {
							t.Fatal(bed, s, c, got, bust)
						}
					}
				}
			}
		}
	}
}
