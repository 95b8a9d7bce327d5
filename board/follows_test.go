package board_test

import (
	"math"
	"math/rand/v2"
	"slices"
	"testing"

	"oche/api"
	"oche/board"
)

// numberAt returns the number of the sector of a point, on a board of which all rings but the middle score.
func numberAt(t *testing.T, b api.Board, p api.BoardPoint) int {
	t.Helper()
	b.Eye, b.Bull, b.Wire, b.Rings = 1, 2, 0, []api.BoardRing{{Outer: api.MaxBoardPoint, Factor: 1}}
	bed, wire, e := board.Bed(b, p)
	if wire || e != api.OK {
		t.Fatal(p, bed, wire, e)
	}
	return int(bed % 100)
}

// P1.10: a point is in one sector alone, and so are all points in the same direction.
func TestOneSector(t *testing.T) {
	r := rand.New(rand.NewPCG(5, 5))
	for _, b := range boards() {
		for range 2000 {
			p := at(r.IntN(401)-200, r.IntN(401)-200)
			if dot(p, p) < 4 {
				continue
			}
			in := wedges(b, p)
			if len(in) != 1 {
				t.Fatal(p, in)
			}
			k := 1 + r.IntN(17)
			if near, far := numberAt(t, b, p), numberAt(t, b, at(k*p.X, k*p.Y)); near != b.Numbers[in[0]] || far != near {
				t.Fatal(p, k, near, far)
			}
		}
		for i, line := range b.Lines {
			k := 3000 / max(line.X, -line.X, line.Y, -line.Y)
			if n := numberAt(t, b, at(k*line.X, k*line.Y)); n != b.Numbers[i] {
				t.Error("on the line", i, n)
			}
		}
	}
}

// P1.10: the beds of a box are those of its points, and but for the miss they are beds of the board.
func TestBoxOfPoints(t *testing.T) {
	r := rand.New(rand.NewPCG(6, 6))
	for _, b := range boards() {
		all, _ := board.All(b)
		for range 40 {
			x, y := r.IntN(3600)-1800, r.IntN(3600)-1800
			area := box(x, x+r.IntN(50), y, y+r.IntN(50))
			seen := map[api.Bed]bool{}
			for x := area.X.Low; x <= area.X.High; x++ {
				for y := area.Y.Low; y <= area.Y.High; y++ {
					bed, wire, e := board.Bed(b, at(x, y))
					if e != api.OK || wire && bed != api.Miss || bed != api.Miss && !slices.Contains(all, bed) {
						t.Fatal(x, y, bed, wire, e)
					}
					seen[bed] = true
				}
			}
			l, e := board.Beds(b, area)
			if e != api.OK || len(l) != len(seen) || !slices.IsSorted(l) || slices.ContainsFunc(l, func(bed api.Bed) bool { return !seen[bed] }) {
				t.Fatal(area, l, e)
			}
		}
	}
}

// P1.11: on a turned board, the number is that of k sectors before, and all else is as it was.
func TestTurnedBeds(t *testing.T) {
	r := rand.New(rand.NewPCG(7, 7))
	for _, b := range boards() {
		n := len(b.Numbers)
		for k := range n {
			turned, e := board.Turn(b, k)
			if e != api.OK {
				t.Fatal(e)
			}
			for range 100 {
				p := at(r.IntN(4001)-2000, r.IntN(4001)-2000)
				bed, wire, _ := board.Bed(b, p)
				got, on, e := board.Bed(turned, p)
				want := bed
				if bed != 0 && bed%100 != 25 {
					sector := slices.Index(b.Numbers, int(bed%100))
					want = bed/100*100 + api.Bed(b.Numbers[(sector-k+n)%n])
				}
				if got != want || on != wire || e != api.OK {
					t.Fatal(k, p, bed, got, on, e)
				}
			}
			if k == 0 {
				continue
			}
			if back, e := board.Turn(turned, n-k); e != api.OK || !slices.Equal(back.Numbers, b.Numbers) {
				t.Error(k, back, e)
			}
		}
	}
}

// P1.12: no hit is lost, no turn is better than Best, and Best is not better than can be.
func TestEvenWear(t *testing.T) {
	r := rand.New(rand.NewPCG(8, 8))
	for _, b := range boards() {
		n := len(b.Numbers)
		for range 30 {
			worn, week := numbers(r, n, 50), numbers(r, n, 40)
			best, most, e := board.Best(b, worn, week)
			for k := range n {
				wear, f := board.Wear(b, worn, week, k)
				if f != api.OK || total(wear) != total(worn)+total(week) {
					t.Fatal(worn, week, k, wear, f)
				}
				if m := slices.Max(wear); m < most || m == most && k < best || m != most && k == best {
					t.Fatal(worn, week, k, m, best, most)
				}
			}
			if e != api.OK || most < (total(worn)+total(week)+n-1)/n {
				t.Fatal(worn, week, best, most, e)
			}
			if turns, m, e := board.Plan(b, worn, [][]int{week}); e != api.OK || !slices.Equal(turns, list(best)) || m != most {
				t.Fatal(worn, week, turns, m, e)
			}
		}
	}
}

// P1.12: no list of turns is better than that of Plan, which leads to the wear that Plan says.
func TestEvenPlan(t *testing.T) {
	r := rand.New(rand.NewPCG(9, 9))
	for _, b := range boards() {
		n := len(b.Numbers)
		worn, weeks := numbers(r, n, 50), [][]int{numbers(r, n, 40), numbers(r, n, 40), numbers(r, n, 40)}
		turns, most, e := board.Plan(b, worn, weeks)
		if e != api.OK || len(turns) != 3 {
			t.Fatal(turns, most, e)
		}
		// follow returns the greatest wear at the end, turn by turn.
		follow := func(turns []int) int {
			wear := worn
			for i, k := range turns {
				wear, _ = board.Wear(b, wear, weeks[i], k)
			}
			return slices.Max(wear)
		}
		all := total(worn) + total(weeks[0]) + total(weeks[1]) + total(weeks[2])
		if follow(turns) != most || most < (all+n-1)/n {
			t.Error(turns, most, follow(turns))
		}
		for range 300 {
			other := list(r.IntN(n), r.IntN(n), r.IntN(n))
			if m := follow(other); m < most || m == most && slices.Compare(other, turns) < 0 {
				t.Error(turns, most, other, m)
			}
		}
	}
}

// The chapter's examples (P1.2, P1.3, P1.5, P1.7, P1.8).
func TestExamples(t *testing.T) {
	bare, wired := quarters(0), quarters(10)
	bedAll(t, []bedCase{
		{bare, at(0, 0), 225, false}, {bare, at(59, 0), 225, false}, {bare, at(60, 0), 125, false}, {bare, at(0, -159), 125, false}, {bare, at(160, 0), 106, false}, {bare, at(0, 1000), 320, false}, {bare, at(0, -1650), 203, false}, {bare, at(-1700, 0), 0, false}, {bare, at(500, 500), 106, false}, {bare, at(-500, 500), 120, false},
		{wired, at(165, 0), 0, true}, {wired, at(150, 0), 0, true}, {wired, at(500, 490), 0, true}, {wired, at(500, 485), 106, false},
	})
	if l, e := board.Beds(bare, box(59, 60, 0, 0)); e != api.OK || !slices.Equal(l, []api.Bed{125, 225}) {
		t.Error(l, e)
	}
	if b, e := board.Turn(bare, 1); e != api.OK || !slices.Equal(b.Numbers, list(11, 20, 6, 3)) {
		t.Error(b, e)
	}
	worn, week := list(10, 0, 0, 0), list(9, 1, 1, 1)
	if l, e := board.Wear(bare, worn, week, 0); e != api.OK || slices.Max(l) != 19 {
		t.Error(l, e)
	}
	if k, most, e := board.Best(bare, worn, week); k != 1 || most != 11 || e != api.OK {
		t.Error(k, most, e)
	}
	if turns, most, e := board.Plan(bare, worn, [][]int{week, week}); !slices.Equal(turns, list(1, 2)) || most != 12 || e != api.OK {
		t.Error(turns, most, e)
	}
}

// P1: whatever the arguments are, no function panics, and with an error the other results are zero values.
func TestAnyArguments(t *testing.T) {
	ends := list(math.MinInt, math.MinInt+1, -5001, -1, 0, 1, 3, 20, 60, 160, 4999, 5001, math.MaxInt-1, math.MaxInt)
	r := rand.New(rand.NewPCG(10, 10))
	pick := func() int { return ends[r.IntN(len(ends))] }
	some := func(most int) []int {
		l := make([]int, r.IntN(most+1))
		for i := range l {
			l[i] = pick()
		}
		return l
	}
	for range 20000 {
		b := boards()[r.IntN(6)]
		if r.IntN(3) == 0 {
			b.Numbers = some(22)
		}
		switch r.IntN(4) {
		case 0:
			b.Eye, b.Bull = pick(), pick()
		case 1:
			b.Wire, b.Rings[0] = pick(), api.BoardRing{Outer: pick(), Factor: pick()}
		case 2:
			b.Lines[r.IntN(len(b.Lines))] = at(pick(), pick())
		}
		if bed, wire, e := board.Bed(b, at(pick(), pick())); e != api.OK && (bed != 0 || wire) {
			t.Fatal(bed, wire, e)
		}
		if l, e := board.Beds(b, box(pick(), pick(), pick(), pick())); e != api.OK && l != nil {
			t.Fatal(l, e)
		}
		if l, e := board.All(b); e != api.OK && l != nil {
			t.Fatal(l, e)
		}
		if got, e := board.Turn(b, pick()); e != api.OK && !empty(got) {
			t.Fatal(got, e)
		}
		if l, e := board.Wear(b, some(5), some(5), pick()); e != api.OK && l != nil {
			t.Fatal(l, e)
		}
		if k, most, e := board.Best(b, some(5), some(5)); e != api.OK && (k != 0 || most != 0) {
			t.Fatal(k, most, e)
		}
		if turns, most, e := board.Plan(b, some(5), [][]int{some(5), some(5), some(5), some(5)}[:r.IntN(5)]); e != api.OK && (turns != nil || most != 0) {
			t.Fatal(turns, most, e)
		}
		if weeks, e := board.Last(b, some(5), some(5), pick()); e != api.OK && weeks != 0 {
			t.Fatal(weeks, e)
		}
	}
}

// P1 (R4): no argument is changed, and no result shares memory with one.
func TestArgumentsKept(t *testing.T) {
	b, worn, week := quarters(0), list(10, 0, 0, 0), list(9, 1, 1, 1)
	wear, _ := board.Wear(b, worn, week, 0)
	wear[0], wear[1] = -5, -5
	if _, e := board.Last(b, worn, week, 500); e != api.OK {
		t.Error(e)
	}
	turns, _, _ := board.Plan(b, worn, [][]int{week, week, week})
	turns[0], turns[1] = -5, -5
	if again, _, _ := board.Plan(b, worn, [][]int{week, week, week}); again[0] < 0 || again[1] < 0 {
		t.Error("kept:", again)
	}
	if was := quarters(0); !slices.Equal(worn, list(10, 0, 0, 0)) || !slices.Equal(week, list(9, 1, 1, 1)) || !slices.Equal(b.Numbers, was.Numbers) || !slices.Equal(b.Lines, was.Lines) || !slices.Equal(b.Rings, was.Rings) {
		t.Error("changed:", worn, week, b)
	}
}
