package aim_test

import (
	"math/rand/v2"
	"slices"
	"testing"

	"oche/aim"
	"oche/api"
)

// P8.3 to P8.5: aims, their costs, and those that may be the best ones.
func TestAim(t *testing.T) {
	two := rules(2, 4, 1, half(), sure(102))
	doubles := rules(2, 6, 1, sure(101), sure(201), sure(202), sure(201))
	for i, c := range []struct {
		r          api.AimRules
		p          api.AimPosition
		aim, worst int
		costs      []api.Span
		may        []int
	}{
		{one(2), place(2, 2, 1), 0, 571429, spans(to(571428, 571429)), ints(0)},
		{one(2), place(2, 2, 2), 0, 285715, spans(to(285714, 285715)), ints(0)},
		{one(2), place(2, 2, 3), 0, 142858, spans(to(142857, 142858)), ints(0)},
		// What was left before the visit is what is left after a bust dart, and a miss leaves what is left now.
		{one(4), place(4, 4, 1), 0, 1387756, spans(to(1387754, 1387756)), ints(0)},
		{one(4), place(4, 2, 1), 0, 571429, spans(to(571428, 571429)), ints(0)},
		{two, place(4, 4, 1), 1, 1142858, spans(to(1214285, 1214287), to(1142857, 1142858)), ints(1)},
		{two, place(3, 2, 2), 0, 285715, spans(to(285714, 285715), to(most, never)), ints(0)},
		// Of equal aims the first one is listed, and all may be the best ones.
		{doubles, place(2, 2, 1), 1, 0, spans(to(1000000, 1000000), to(0, 0), to(1000000, 1000000), to(0, 0)), ints(1, 3)},
		{doubles, place(6, 6, 2), 1, 0, spans(to(1000000, 1000000), to(0, 0), to(0, 0), to(0, 0)), ints(1, 2, 3)},
		{doubles, place(6, 6, 1), 0, 1000000, spans(to(1000000, 1000000), to(1000000, 1000000), to(1000000, 1000000), to(1000000, 1000000)), ints(0, 1, 2, 3)},
		// An aim whose Low is just the least High may be the best one.
		{rules(2, 2, 1, throws(201, lands(0, 0, 1), lands(201, 1, 2)), half()), place(2, 2, 1), 0, 571429, spans(to(0, 571429), to(500000, 571429)), ints(0, 1)},
		{rules(2, 4, 1, sure(102), throws(201, lands(102, 0, 2), lands(201, 0, 2)), sure(201)), place(4, 4, 3), 0, 0, spans(to(0, 0), to(0, 0), to(0, 0)), ints(0, 1, 2)},
	} {
		best, worst, e := aim.Aim(c.r, c.p)
		costs, f := aim.Costs(c.r, c.p)
		may, g := aim.May(c.r, c.p)
		if best != c.aim || worst != c.worst || !slices.Equal(costs, c.costs) || !slices.Equal(may, c.may) || e != api.OK || f != api.OK || g != api.OK {
			t.Error(i, best, worst, costs, may, e, f, g)
		}
	}
}

// P8.3: there is no aim if all worst means are AimNever; then all may be the best ones.
func TestNoAim(t *testing.T) {
	for _, c := range []struct {
		r     api.AimRules
		p     api.AimPosition
		costs []api.Span
		may   []int
	}{
		{one(3), place(3, 3, 2), spans(to(most, never)), ints(0)},
		{one(3), place(3, 3, 3), spans(to(most, never)), ints(0)},
		{rules(2, 3, 1, sure(301), half()), place(3, 3, 1), spans(to(most, never), to(most, never)), ints(0, 1)},
		// 2 can be won, but a dart that is bust leads back to 3, which cannot.
		{rules(2, 3, 1, throws(201, lands(102, 1, 1), lands(201, 1, 1))), place(3, 2, 1), spans(to(500000000, never)), ints(0)},
		// 3 can be ended, but it is not sure.
		{rules(2, 3, 1, throws(201, lands(101, 0, 1), lands(201, 1, 2)), sure(301)), place(3, 3, 3), spans(to(1000000, never), to(2000000, never)), ints(0, 1)},
	} {
		best, worst, e := aim.Aim(c.r, c.p)
		costs, f := aim.Costs(c.r, c.p)
		may, g := aim.May(c.r, c.p)
		if best != 0 || worst != 0 || e != api.ErrNone || !slices.Equal(costs, c.costs) || !slices.Equal(may, c.may) || f != api.OK || g != api.OK {
			t.Error(c, best, worst, costs, may, e, f, g)
		}
	}
}

// P8.3 to P8.5: positions that are valid, and those that are not.
func TestPositions(t *testing.T) {
	for gate := range api.Gate(3) {
		r := rules(2, 5, gate, half(), sure(101))
		fine := map[api.AimPosition]bool{}
		for p := range positions(r) {
			fine[p] = true
		}
		around := slices.Concat(numbers(), ints(6, 7))
		for _, start := range around {
			for _, left := range around {
				for _, darts := range around {
					p := place(start, left, darts)
					_, _, e := aim.Aim(r, p)
					costs, f := aim.Costs(r, p)
					may, g := aim.May(r, p)
					if fine[p] && (e == api.ErrArg || len(costs) != 2 || f != api.OK || g != api.OK) {
						t.Fatal(gate, p, e, costs, f, g)
					}
					if !fine[p] && (e != api.ErrArg || len(costs)+len(may) != 0 || f != api.ErrArg || g != api.ErrArg) {
						t.Fatal(gate, p, e, costs, may, f, g)
					}
				}
			}
		}
	}
}

// P8.3 to P8.5: all positions of random laws, by the text.
func TestPositionsByText(t *testing.T) {
	r := rand.New(rand.NewPCG(7, 8))
	found := map[api.Errno]int{}
	for range 150 {
		l := randomRules(r, 4, 8, 4, 4)
		upper, lower, _ := aim.Table(l)
		worst, best := byText(l, upper, false), byText(l, lower, true)
		for p := range positions(l) {
			lows, highs := best.means(p), worst.means(p)
			costs := make([]api.Span, len(lows))
			var may []int
			for i, low := range lows {
				costs[i] = to(low, highs[i])
				if low <= slices.Min(highs) {
					may = append(may, i)
				}
			}
			least := slices.Min(highs)
			first, want := slices.Index(highs, least), api.OK
			if least == never {
				first, least, want = 0, 0, api.ErrNone
			}
			found[want]++
			if got, mean, e := aim.Aim(l, p); got != first || mean != least || e != want {
				t.Fatal(l, p, got, mean, e, highs)
			}
			if got, e := aim.Costs(l, p); !slices.Equal(got, costs) || e != api.OK {
				t.Fatal(l, p, got, e, costs)
			}
			if got, e := aim.May(l, p); !slices.Equal(got, may) || e != api.OK {
				t.Fatal(l, p, got, e, costs)
			}
		}
	}
	if found[api.OK] < 500 || found[api.ErrNone] < 500 {
		t.Error(found)
	}
}
