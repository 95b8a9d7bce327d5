package board_test

import (
	"math"
	"math/rand/v2"
	"slices"
	"testing"

	"oche/api"
	"oche/board"
)

// checkCase is a change of a valid board, and the error that Check then returns.
type checkCase struct {
	name   string
	change func(b *api.Board)
	want   api.Errno
}

// checkAll checks the example's board (Wire 5) after each change.
func checkAll(t *testing.T, cases []checkCase) {
	t.Helper()
	for _, c := range cases {
		b := quarters(5)
		c.change(&b)
		if e := board.Check(b); e != c.want {
			t.Errorf("%s: Check returns %d, not %d", c.name, e, c.want)
		}
	}
}

// P1.1: lists that are too long come first, whatever else is wrong.
func TestCheckLong(t *testing.T) {
	checkAll(t, []checkCase{
		{"9 rings", func(b *api.Board) { b.Rings = make([]api.BoardRing, 9) }, api.ErrLong},
		{"9 rings, and a wrong wire", func(b *api.Board) { b.Rings, b.Wire = make([]api.BoardRing, 9), -1 }, api.ErrLong},
		{"21 lines", func(b *api.Board) { b.Lines = make([]api.BoardPoint, 21) }, api.ErrLong},
		{"21 numbers", func(b *api.Board) { b.Numbers = make([]int, 21) }, api.ErrLong},
		{"21 numbers, and no ring", func(b *api.Board) { b.Numbers, b.Rings = make([]int, 21), nil }, api.ErrLong},
		{"20 lines that are not valid", func(b *api.Board) { b.Lines = make([]api.BoardPoint, 20) }, api.ErrArg},
		{"20 numbers", func(b *api.Board) { b.Numbers = make([]int, 20) }, api.ErrArg},
		{"8 rings", func(b *api.Board) {
			b.Rings = nil
			for i := range 8 {
				b.Rings = append(b.Rings, api.BoardRing{Outer: 200 + 11*i, Factor: i % 5})
			}
		}, api.OK},
		{"the empty board", func(b *api.Board) { *b = api.Board{} }, api.ErrArg},
	})
	for _, b := range boards() {
		if e := board.Check(b); e != api.OK {
			t.Error(b, e)
		}
	}
}

// P1.1: radii and factors.
func TestCheckRings(t *testing.T) {
	checkAll(t, []checkCase{
		{"no ring", func(b *api.Board) { b.Rings = nil }, api.ErrArg},
		{"one ring", func(b *api.Board) { b.Rings = b.Rings[:1] }, api.OK},
		{"a factor below 0", func(b *api.Board) { b.Rings[2].Factor = -1 }, api.ErrArg},
		{"a factor of 0", func(b *api.Board) { b.Rings[2].Factor = 0 }, api.OK},
		{"a factor of 4", func(b *api.Board) { b.Rings[3].Factor = 4 }, api.OK},
		{"a factor of 5", func(b *api.Board) { b.Rings[3].Factor = 5 }, api.ErrArg},
		{"an eye of a wire", func(b *api.Board) { b.Eye = 5 }, api.ErrArg},
		{"an eye of more than a wire", func(b *api.Board) { b.Eye = 6 }, api.OK},
		{"no eye", func(b *api.Board) { b.Eye, b.Wire = 0, 0 }, api.ErrArg},
		{"an eye of 1", func(b *api.Board) { b.Eye, b.Wire = 1, 0 }, api.OK},
		{"a bull two wires from the eye", func(b *api.Board) { b.Bull = 70 }, api.ErrArg},
		{"a bull just outside of the wires", func(b *api.Board) { b.Bull = 71 }, api.OK},
		{"a ring two wires from the bull", func(b *api.Board) { b.Rings[0].Outer = 170 }, api.ErrArg},
		{"a ring just outside of the wires", func(b *api.Board) { b.Rings[0].Outer = 171 }, api.OK},
		{"a ring two wires from the one before", func(b *api.Board) { b.Rings[3].Outer = 1630 }, api.ErrArg},
		{"a ring just outside of its wires", func(b *api.Board) { b.Rings[3].Outer = 1631 }, api.OK},
		{"rings at the same radius, without wires", func(b *api.Board) { b.Wire, b.Rings[3].Outer = 0, 1620 }, api.ErrArg},
		{"rings next to each other, without wires", func(b *api.Board) { b.Wire, b.Rings[3].Outer = 0, 1621 }, api.OK},
		{"rings that descend", func(b *api.Board) { slices.Reverse(b.Rings) }, api.ErrArg},
		{"the greatest radius", func(b *api.Board) { b.Rings[3].Outer = 5000 }, api.OK},
		{"a radius that is too great", func(b *api.Board) { b.Rings[3].Outer = 5001 }, api.ErrArg},
		{"radii at the ends of all integers", func(b *api.Board) { b.Eye, b.Bull = math.MaxInt, math.MinInt }, api.ErrArg},
		{"a wire below 0", func(b *api.Board) { b.Wire = -1 }, api.ErrArg},
		{"no wire", func(b *api.Board) { b.Wire = 0 }, api.OK},
		{"the greatest wire", func(b *api.Board) { b.Wire = 20 }, api.OK},
		{"a wire that is too great", func(b *api.Board) { b.Wire = 21 }, api.ErrArg},
	})
}

// P1.1: numbers, and that they are as many as the lines.
func TestCheckNumbers(t *testing.T) {
	checkAll(t, []checkCase{
		{"a number of 0", func(b *api.Board) { b.Numbers[0] = 0 }, api.ErrArg},
		{"a number of 1", func(b *api.Board) { b.Numbers[0] = 1 }, api.OK},
		{"a number of 21", func(b *api.Board) { b.Numbers[0] = 21 }, api.ErrArg},
		{"a number twice", func(b *api.Board) { b.Numbers[0] = 11 }, api.ErrArg},
		{"a number less than lines", func(b *api.Board) { b.Numbers = b.Numbers[:3] }, api.ErrArg},
		{"a number more than lines", func(b *api.Board) { b.Numbers = append(b.Numbers, 1) }, api.ErrArg},
		{"no numbers", func(b *api.Board) { b.Numbers = nil }, api.ErrArg},
		{"no lines", func(b *api.Board) { b.Lines = nil }, api.ErrArg},
		{"neither", func(b *api.Board) { b.Lines, b.Numbers = nil, nil }, api.ErrArg},
	})
}

// P1.1: lines are directions, which go around the centre once.
func TestCheckLines(t *testing.T) {
	lines := func(l ...api.BoardPoint) func(b *api.Board) {
		return func(b *api.Board) {
			b.Lines, b.Numbers = l, list(1, 2, 3, 4, 5, 6, 7, 8)[:len(l)]
		}
	}
	checkAll(t, []checkCase{
		{"the centre", func(b *api.Board) { b.Lines[3] = at(0, 0) }, api.ErrArg},
		{"a line at the greatest point", func(b *api.Board) { b.Lines[0] = at(-5000, 5000) }, api.OK},
		{"X too great", func(b *api.Board) { b.Lines[1] = at(5001, 1) }, api.ErrArg},
		{"X too small", func(b *api.Board) { b.Lines[0] = at(-5001, 1) }, api.ErrArg},
		{"Y too great", func(b *api.Board) { b.Lines[0] = at(-1, 5001) }, api.ErrArg},
		{"Y too small", func(b *api.Board) { b.Lines[3] = at(-1, -5001) }, api.ErrArg},
		{"a line whose products overflow", func(b *api.Board) { b.Lines[2] = at(math.MaxInt, math.MinInt) }, api.ErrArg},
		{"three lines", lines(at(0, 1), at(1, -1), at(-1, -1)), api.OK},
		{"two lines", lines(at(0, 1), at(1, -1)), api.ErrArg},
		{"the same direction twice", lines(at(0, 1), at(0, 2), at(1, -1), at(-1, -1)), api.ErrArg},
		{"the first direction at the end again", lines(at(0, 1), at(1, -1), at(-1, -1), at(0, 3)), api.ErrArg},
		{"half a turn", lines(at(0, 1), at(0, -1), at(-1, 0)), api.ErrArg},
		{"half a turn from the last one to the first one", lines(at(0, 1), at(1, 0), at(0, -1)), api.ErrArg},
		{"nearly half a turn", lines(at(0, 5000), at(1, -5000), at(-1, -5000)), api.OK},
		{"more than half a turn", lines(at(0, 5000), at(-1, -5000), at(-2, -5000)), api.ErrArg},
		{"more than half a turn at the end", lines(at(0, 1), at(1, 1), at(1, 0)), api.ErrArg},
		{"against the clock", lines(at(0, 1), at(-1, -1), at(1, -1)), api.ErrArg},
		{"twice around", lines(at(0, 1), at(1, 0), at(0, -1), at(-1, 0), at(1, 9), at(9, -1), at(-1, -9), at(-9, 1)), api.ErrArg},
		{"twice around, without a direction of the first time", lines(at(0, 1), at(3, -1), at(-3, -1), at(1, 9), at(4, -1), at(-3, 0)), api.ErrArg},
		{"twice around in five steps", lines(at(0, 10), at(6, -8), at(-10, 3), at(10, 3), at(-6, -8)), api.ErrArg},
	})
	r := rand.New(rand.NewPCG(1, 1))
	valid := 0
	for range 20000 {
		b := quarters(5)
		b.Lines, b.Numbers = nil, nil
		for n := range 3 + r.IntN(3) {
			b.Lines, b.Numbers = append(b.Lines, at(r.IntN(5)-2, r.IntN(5)-2)), append(b.Numbers, n+1)
		}
		if slices.Contains(b.Lines, at(0, 0)) {
			continue
		}
		want := around(b.Lines)
		if e := board.Check(b); (e == api.OK) != want {
			t.Fatal(b.Lines, e)
		}
		if want {
			valid++
		}
	}
	if valid < 100 {
		t.Error("too few valid lines:", valid)
	}
}

// P1.1: all functions return the error of Check first.
func TestCheckFirst(t *testing.T) {
	for want, b := range wrongBoards() {
		bed, wire, e1 := board.Bed(b, at(9999, 0))
		beds, e2 := board.Beds(b, box(1, 0, 0, 0))
		all, e3 := board.All(b)
		turned, e4 := board.Turn(b, -1)
		wear, e5 := board.Wear(b, nil, nil, -1)
		k, most, e6 := board.Best(b, nil, nil)
		turns, greatest, e7 := board.Plan(b, nil, make([][]int, 4))
		weeks, e8 := board.Last(b, nil, nil, -1)
		if l := []api.Errno{board.Check(b), e1, e2, e3, e4, e5, e6, e7, e8}; slices.ContainsFunc(l, func(e api.Errno) bool { return e != want }) {
			t.Error(want, l)
		}
		if bed != 0 || wire || beds != nil || all != nil || !empty(turned) || wear != nil || k != 0 || most != 0 || turns != nil || greatest != 0 || weeks != 0 {
			t.Error("not zero:", bed, wire, beds, all, turned, wear, k, most, turns, greatest, weeks)
		}
	}
}

// empty reports whether a board is the zero value.
func empty(b api.Board) bool {
	return b.Eye == 0 && b.Bull == 0 && b.Wire == 0 && len(b.Rings)+len(b.Lines)+len(b.Numbers) == 0
}

// bedCase is a point of a board, and what a dart hits there.
type bedCase struct {
	b    api.Board
	p    api.BoardPoint
	bed  api.Bed
	wire bool
}

// bedAll checks the beds of points.
func bedAll(t *testing.T, cases []bedCase) {
	t.Helper()
	for _, c := range cases {
		if bed, wire, e := board.Bed(c.b, c.p); bed != c.bed || wire != c.wire || e != api.OK {
			t.Errorf("wire %d, point %v: %d, %t, %d", c.b.Wire, c.p, bed, wire, e)
		}
	}
}

// P1.2: beds on a board without wires, on lines and circles too.
func TestBedWithoutWires(t *testing.T) {
	q, h := quarters(0), thirds(0)
	bedAll(t, []bedCase{
		{q, at(0, 0), 225, false}, {q, at(59, 0), 225, false}, {q, at(60, 0), 125, false}, {q, at(36, 48), 125, false}, {q, at(0, -159), 125, false}, {q, at(160, 0), 106, false},
		{q, at(0, 989), 120, false}, {q, at(0, 990), 320, false}, {q, at(0, 1069), 320, false}, {q, at(0, 1070), 120, false}, {q, at(0, 1619), 120, false}, {q, at(0, 1620), 220, false}, {q, at(0, 1699), 220, false}, {q, at(0, 1700), 0, false},
		{q, at(0, -1650), 203, false}, {q, at(-1700, 0), 0, false}, {q, at(5000, 5000), 0, false}, {q, at(-5000, -5000), 0, false}, {q, at(0, 1000), 320, false},
		{q, at(500, 500), 106, false}, {q, at(-500, 500), 120, false}, {q, at(500, -500), 103, false}, {q, at(-500, -500), 111, false},
		{q, at(499, 500), 120, false}, {q, at(500, 499), 106, false}, {q, at(500, -499), 106, false}, {q, at(499, -500), 103, false}, {q, at(-499, -500), 103, false}, {q, at(-500, -499), 111, false}, {q, at(-500, 499), 111, false}, {q, at(-499, 500), 120, false},
		{h, at(300, 400), 401, false}, {h, at(299, 400), 407, false}, {h, at(400, -300), 420, false}, {h, at(400, -299), 401, false}, {h, at(-500, 0), 407, false}, {h, at(-500, -1), 420, false}, {h, at(-500, 1), 407, false}, {h, at(-300, -400), 420, false},
		{h, at(999, 0), 401, false}, {h, at(1000, 0), 0, false}, {h, at(1999, 0), 0, false}, {h, at(2000, 0), 101, false}, {h, at(3000, 0), 401, false}, {h, at(4000, 0), 0, false},
	})
}

// P1.2: darts at a distance of just a wire from circles and lines fall off.
func TestBedOnWires(t *testing.T) {
	q, h := quarters(10), thirds(10)
	bedAll(t, []bedCase{
		{q, at(0, 0), 225, false}, {q, at(49, 0), 225, false}, {q, at(50, 0), 0, true}, {q, at(60, 0), 0, true}, {q, at(70, 0), 0, true}, {q, at(70, 1), 125, false}, {q, at(71, 0), 125, false},
		{q, at(149, 0), 125, false}, {q, at(150, 0), 0, true}, {q, at(150, 1), 0, true}, {q, at(165, 0), 0, true}, {q, at(170, 0), 0, true}, {q, at(170, 1), 106, false}, {q, at(171, 0), 106, false},
		{q, at(979, 0), 106, false}, {q, at(980, 0), 0, true}, {q, at(1000, 0), 0, true}, {q, at(1001, 0), 306, false}, {q, at(1060, 0), 0, true}, {q, at(1610, 0), 0, true}, {q, at(1690, 0), 0, true}, {q, at(1710, 0), 0, true}, {q, at(1711, 0), 0, false}, {q, at(1710, 1), 0, false},
		{q, at(500, 490), 0, true}, {q, at(500, 486), 0, true}, {q, at(500, 485), 106, false}, {q, at(486, 500), 0, true}, {q, at(485, 500), 120, false}, {q, at(-500, -490), 0, true}, {q, at(-500, 485), 111, false},
		{q, at(70, 70), 125, false}, {q, at(30, 30), 225, false}, {q, at(115, 115), 0, true}, {q, at(125, 125), 0, true}, {q, at(1195, 1195), 0, true}, {q, at(1250, 1250), 0, false},
		{h, at(308, 394), 0, true}, {h, at(309, 394), 401, false}, {h, at(292, 406), 0, true}, {h, at(291, 406), 407, false}, {h, at(-300, -400), 420, false}, {h, at(-308, -394), 420, false},
		{h, at(-500, 10), 0, true}, {h, at(-500, 11), 407, false}, {h, at(-500, -10), 0, true}, {h, at(-500, -11), 420, false}, {h, at(500, 0), 401, false}, {h, at(500, 10), 401, false},
		{h, at(-1500, 0), 0, true}, {h, at(-1500, 11), 0, false}, {h, at(-4011, 0), 0, false}, {h, at(-4010, 0), 0, true},
		{quarters(1), at(161, 0), 0, true}, {quarters(1), at(162, 0), 106, false}, {quarters(1), at(501, 500), 0, true}, {quarters(1), at(502, 500), 106, false},
	})
}

// P1.2: the beds of many points are those that the text of the chapter says.
func TestBedByText(t *testing.T) {
	r := rand.New(rand.NewPCG(2, 2))
	for _, b := range boards() {
		for _, p := range samples(r, b) {
			bed, wire, e := board.Bed(b, p)
			if want, on := landing(b, p); bed != want || wire != on || e != api.OK {
				t.Fatal(b, p, bed, wire, e)
			}
		}
	}
}

// P1.2: points that are not valid.
func TestBedErrors(t *testing.T) {
	for _, p := range []api.BoardPoint{at(5001, 0), at(-5001, 0), at(0, 5001), at(0, -5001), at(math.MaxInt, math.MinInt)} {
		if bed, wire, e := board.Bed(quarters(5), p); bed != 0 || wire || e != api.ErrArg {
			t.Error(p, bed, wire, e)
		}
	}
}

// P1.3: the beds of boxes, and the errors of spans before that of too many points.
func TestBeds(t *testing.T) {
	for _, c := range []struct {
		wire int
		x    api.BoardBox
		want []api.Bed
		e    api.Errno
	}{
		{0, box(59, 60, 0, 0), []api.Bed{125, 225}, api.OK},
		{0, box(0, 0, 0, 0), []api.Bed{225}, api.OK},
		{0, box(0, 0, 989, 990), []api.Bed{120, 320}, api.OK},
		{0, box(-500, -499, -500, -499), []api.Bed{103, 111}, api.OK},
		{10, box(500, 500, 485, 490), []api.Bed{0, 106}, api.OK},
		{10, box(500, 500, 486, 490), []api.Bed{0}, api.OK},
		{0, box(-5000, -5000, -5000, -5000), []api.Bed{0}, api.OK},
		{0, box(4951, 5000, -5000, -4951), []api.Bed{0}, api.OK},
		{0, box(0, 2499, 0, 0), []api.Bed{0, 106, 125, 206, 225, 306}, api.OK},
		{0, box(0, 0, -2499, 0), []api.Bed{0, 103, 125, 203, 225, 303}, api.OK},
		{0, box(0, 2500, 0, 0), nil, api.ErrFull},
		{0, box(0, 40, 0, 60), nil, api.ErrFull},
		{0, box(-5000, 5000, -5000, 5000), nil, api.ErrFull},
		{0, box(1, 0, 0, 0), nil, api.ErrArg},
		{0, box(0, 0, 1, 0), nil, api.ErrArg},
		{0, box(-5001, 0, 0, 0), nil, api.ErrArg},
		{0, box(0, 5001, 0, 0), nil, api.ErrArg},
		{0, box(0, 0, -5001, 0), nil, api.ErrArg},
		{0, box(0, 0, 0, 5001), nil, api.ErrArg},
		{0, box(math.MinInt, math.MaxInt, 0, 0), nil, api.ErrArg},
	} {
		if l, e := board.Beds(quarters(c.wire), c.x); !slices.Equal(l, c.want) || e != c.e {
			t.Error(c.wire, c.x, l, e)
		}
	}
}

// P1.4: all beds of a board, each once and without the miss.
func TestAll(t *testing.T) {
	var all []api.Bed
	for _, factor := range []api.Bed{1, 2, 3} {
		for n := range api.Bed(20) {
			all = append(all, 100*factor+n+1)
		}
		if factor < 3 {
			all = append(all, 100*factor+25)
		}
	}
	for _, c := range []struct {
		b    api.Board
		want []api.Bed
	}{
		{quarters(0), []api.Bed{103, 106, 111, 120, 125, 203, 206, 211, 220, 225, 303, 306, 311, 320}},
		{thirds(7), []api.Bed{101, 107, 120, 125, 225, 401, 407, 420}},
		{club(0), all},
	} {
		if l, e := board.All(c.b); !slices.Equal(l, c.want) || e != api.OK {
			t.Error(l, e)
		}
	}
	dead := quarters(0)
	dead.Rings = []api.BoardRing{{Outer: 300}}
	if l, e := board.All(dead); !slices.Equal(l, []api.Bed{125, 225}) || e != api.OK {
		t.Error(l, e)
	}
}
