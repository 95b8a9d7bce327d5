package board_test

import (
	"math"
	"math/rand/v2"
	"slices"
	"testing"

	"oche/api"
	"oche/board"
)

// greatest is MaxBoardWear.
const greatest = api.MaxBoardWear

// P1.5: only the numbers of a turned board are different.
func TestTurn(t *testing.T) {
	for k, want := range [][]int{{20, 6, 3, 11}, {11, 20, 6, 3}, {3, 11, 20, 6}, {6, 3, 11, 20}} {
		b, was := quarters(5), quarters(5)
		got, e := board.Turn(b, k)
		if e != api.OK || !slices.Equal(got.Numbers, want) {
			t.Error(k, got, e)
		}
		if got.Eye != was.Eye || got.Bull != was.Bull || got.Wire != was.Wire || !slices.Equal(got.Rings, was.Rings) || !slices.Equal(got.Lines, was.Lines) {
			t.Error("more is different:", got)
		}
		got.Numbers[0], got.Rings[0], got.Lines[0] = 1, api.BoardRing{}, at(1, 2)
		if !slices.Equal(b.Numbers, was.Numbers) || !slices.Equal(b.Rings, was.Rings) || !slices.Equal(b.Lines, was.Lines) {
			t.Error("the argument has changed:", b)
		}
	}
	for _, k := range []int{-1, 4, math.MinInt, math.MaxInt} {
		if got, e := board.Turn(quarters(5), k); e != api.ErrRange || !empty(got) {
			t.Error(k, got, e)
		}
	}
	if got, e := board.Turn(thirds(0), 3); e != api.ErrRange || !empty(got) {
		t.Error(got, e)
	}
}

// P1.6: wear after a week.
func TestWear(t *testing.T) {
	for _, c := range []struct {
		worn, week []int
		k          int
		want       []int
	}{
		{list(10, 0, 0, 0), list(9, 1, 1, 1), 0, list(19, 1, 1, 1)},
		{list(10, 0, 0, 0), list(9, 1, 1, 1), 1, list(11, 9, 1, 1)},
		{list(1, 2, 3, 4), list(10, 20, 30, 40), 1, list(41, 12, 23, 34)},
		{list(1, 2, 3, 4), list(10, 20, 30, 40), 3, list(21, 32, 43, 14)},
		{list(greatest-1, 0, 0, 0), list(1, 1000000, 0, 0), 0, list(greatest, 1000000, 0, 0)},
		{list(greatest, greatest, greatest, greatest), list(0, 0, 0, 0), 2, list(greatest, greatest, greatest, greatest)},
	} {
		if l, e := board.Wear(quarters(0), c.worn, c.week, c.k); !slices.Equal(l, c.want) || e != api.OK {
			t.Error(c.worn, c.week, c.k, l, e)
		}
	}
}

// P1.6: the errors of Wear, in their order.
func TestWearErrors(t *testing.T) {
	none, high := list(0, 0, 0, 0), list(greatest, 0, 0, 0)
	for _, c := range []struct {
		worn, week []int
		k          int
		want       api.Errno
	}{
		{nil, none, 0, api.ErrForm}, {none, nil, 0, api.ErrForm}, {list(0, 0, 0), none, 0, api.ErrForm}, {none, list(0, 0, 0), 0, api.ErrForm}, {list(0, 0, 0, 0, 0), none, 0, api.ErrForm}, {none, list(0, 0, 0, 0, 0), 0, api.ErrForm},
		{list(-1, 0, 0, 0), list(0), 9, api.ErrForm}, {list(0), list(-1, 0, 0, 0), 9, api.ErrForm},
		{list(0, 0, 0, -1), none, 9, api.ErrArg}, {list(0, greatest+1, 0, 0), none, 9, api.ErrArg}, {none, list(0, 0, 0, -1), 9, api.ErrArg}, {none, list(0, 1000001, 0, 0), 9, api.ErrArg}, {high, list(1, 0, 0, -1), 0, api.ErrArg}, {list(math.MinInt, 0, 0, math.MaxInt), none, 0, api.ErrArg},
		{none, none, -1, api.ErrRange}, {none, none, 4, api.ErrRange}, {high, list(1, 1, 1, 1), 4, api.ErrRange}, {none, none, math.MinInt, api.ErrRange},
		{high, list(1, 0, 0, 0), 0, api.ErrFull}, {high, list(0, 0, 0, 1), 1, api.ErrFull}, {high, list(0, 0, 0, 1), 0, api.OK}, {none, list(1000000, 0, 0, 0), 0, api.OK},
	} {
		l, e := board.Wear(quarters(0), c.worn, c.week, c.k)
		if e != c.want || (e == api.OK) != (l != nil) {
			t.Error(c.worn, c.week, c.k, l, e)
		}
	}
}

// P1.7: the smallest turn with the least greatest wear.
func TestBest(t *testing.T) {
	for _, c := range []struct {
		worn, week []int
		k, most    int
		e          api.Errno
	}{
		{list(10, 0, 0, 0), list(9, 1, 1, 1), 1, 11, api.OK},
		{list(1, 2, 3, 4), list(5, 6, 7, 8), 2, 10, api.OK},
		{list(0, 0, 0, 0), list(0, 0, 0, 0), 0, 0, api.OK},
		{list(0, 0, 0, 0), list(3, 0, 0, 0), 0, 3, api.OK},
		{list(5, 5, 5, 0), list(7, 0, 0, 0), 3, 7, api.OK},
		{list(5, 5, 0, 0), list(0, 7, 0, 0), 1, 7, api.OK},
		{list(greatest, 0, 0, 0), list(1000000, 0, 0, 0), 1, greatest, api.OK},
		{list(greatest, greatest, greatest, greatest), list(0, 0, 0, 0), 0, greatest, api.OK},
		{list(greatest, 0, 0, 0), list(1, 1, 1, 1), 0, 0, api.ErrFull},
		{list(0, 0, 0), list(-1, 0, 0, 0), 0, 0, api.ErrForm},
		{list(-1, 0, 0, 0), nil, 0, 0, api.ErrForm},
		{list(-1, 0, 0, 0), list(0, 0, 0, 0), 0, 0, api.ErrArg},
		{list(greatest, greatest, greatest, greatest), list(1, 0, 0, 1000001), 0, 0, api.ErrArg},
	} {
		if k, most, e := board.Best(quarters(0), c.worn, c.week); k != c.k || most != c.most || e != c.e {
			t.Error(c.worn, c.week, k, most, e)
		}
	}
}

// P1.8: the smallest list of turns with the least greatest wear.
func TestPlan(t *testing.T) {
	full := repeat(greatest, 4)
	for _, c := range []struct {
		worn  []int
		weeks [][]int
		turns []int
		most  int
		e     api.Errno
	}{
		{list(10, 0, 0, 0), [][]int{{9, 1, 1, 1}, {9, 1, 1, 1}}, list(1, 2), 12, api.OK},
		{list(10, 0, 0, 0), [][]int{{9, 1, 1, 1}}, list(1), 11, api.OK},
		{list(4, 1, 2, 3), nil, nil, 4, api.OK},
		{list(0, 0, 0, 0), [][]int{{4, 0, 0, 0}, {4, 0, 0, 0}, {4, 0, 0, 0}}, list(0, 1, 2), 4, api.OK},
		{list(3, 0, 0, 0), [][]int{{1, 0, 0, 0}, {3, 3, 0, 0}}, list(1, 2), 3, api.OK},
		{list(0, 0, 0, 0), [][]int{{1, 0, 0, 0}, {0, 0, 0, 0}, {2, 0, 0, 0}}, list(0, 0, 1), 2, api.OK},
		{list(greatest, 0, 0, 0), nil, nil, greatest, api.OK},
		{list(greatest, 0, 0, 0), [][]int{{0, 1, 1, 1}}, list(0), greatest, api.OK},
		{nil, make([][]int, 4), nil, 0, api.ErrLong},
		{nil, nil, nil, 0, api.ErrForm},
		{full, [][]int{{0, 0, 0, 1}, nil}, nil, 0, api.ErrForm},
		{list(-1, 0, 0, 0), [][]int{{0, 0, 0, -1}, {0, 0, 0, 0}, {0}}, nil, 0, api.ErrForm},
		{list(-1, 0, 0, 0), nil, nil, 0, api.ErrArg},
		{full, [][]int{{0, 0, 0, 1}, {0, 0, 0, -1}}, nil, 0, api.ErrArg},
		{full, [][]int{{0, 0, 0, 0}, {0, 0, 0, 0}, {0, 0, 0, 1}}, nil, 0, api.ErrFull},
	} {
		turns, most, e := board.Plan(quarters(0), c.worn, c.weeks)
		if !slices.Equal(turns, c.turns) || most != c.most || e != c.e {
			t.Error(c.worn, c.weeks, turns, most, e)
		}
	}
}

// P1.8: among all lists of turns, tried one by one.
func TestPlanOfAll(t *testing.T) {
	r := rand.New(rand.NewPCG(3, 3))
	for range 60 {
		b := thirds(0)
		worn, weeks := numbers(r, 3, 12), [][]int{numbers(r, 3, 6), numbers(r, 3, 6), numbers(r, 3, 6)}
		turns, most := []int(nil), math.MaxInt
		for number := range 27 {
			plan, wear := list(number/9, number/3%3, number%3), worn
			for i, week := range weeks {
				wear, _ = board.Wear(b, wear, week, plan[i])
			}
			if m := slices.Max(wear); m < most {
				turns, most = plan, m
			}
		}
		if l, m, e := board.Plan(b, worn, weeks); !slices.Equal(l, turns) || m != most || e != api.OK {
			t.Fatal(worn, weeks, l, m, e)
		}
	}
}

// P1.9: after how many weeks a board is worn.
func TestLast(t *testing.T) {
	none := list(0, 0, 0, 0)
	for _, c := range []struct {
		worn, week  []int
		limit, want int
	}{
		{list(10, 0, 0, 0), list(9, 1, 1, 1), 9, 0}, {list(10, 0, 0, 0), list(9, 1, 1, 1), 10, 1}, {list(10, 0, 0, 0), list(9, 1, 1, 1), 11, 2},
		{none, list(4, 0, 0, 0), 3, 1}, {none, list(4, 0, 0, 0), 4, 5}, {none, list(4, 0, 0, 0), 7, 5}, {none, list(4, 0, 0, 0), 8, 9},
		{none, none, 0, -1}, {list(7, 0, 0, 0), none, 7, -1}, {list(7, 0, 0, 0), none, 6, 0},
		{none, list(1, 1, 1, 1), 498, 499}, {none, list(1, 1, 1, 1), 499, 500}, {none, list(1, 1, 1, 1), 500, -1},
		{list(greatest, 0, 0, 0), list(1, 1, 1, 1), greatest, 1}, {list(greatest, 0, 0, 0), list(1000000, 0, 0, 0), greatest, -1},
	} {
		if weeks, e := board.Last(quarters(0), c.worn, c.week, c.limit); weeks != c.want || e != api.OK {
			t.Error(c.worn, c.week, c.limit, weeks, e)
		}
	}
}

// P1.9: week after week with Best and Wear.
func TestLastByBest(t *testing.T) {
	r := rand.New(rand.NewPCG(4, 4))
	for _, b := range boards() {
		n := len(b.Numbers)
		worn, week, limit := numbers(r, n, 30), numbers(r, n, 9), 31+r.IntN(60)
		weeks, wear := 0, worn
		for slices.Max(wear) <= limit {
			k, _, _ := board.Best(b, wear, week)
			wear, _ = board.Wear(b, wear, week, k)
			weeks++
		}
		if got, e := board.Last(b, worn, week, limit); got != weeks || e != api.OK {
			t.Error(worn, week, limit, got, weeks, e)
		}
	}
}

// P1.9: the errors of Last, in their order.
func TestLastErrors(t *testing.T) {
	none := list(0, 0, 0, 0)
	for _, c := range []struct {
		worn, week []int
		limit      int
		want       api.Errno
	}{
		{nil, none, -1, api.ErrForm}, {none, nil, -1, api.ErrForm}, {list(-1, 0, 0, 0), list(0), -1, api.ErrForm},
		{list(-1, 0, 0, 0), none, -1, api.ErrArg}, {none, list(0, 0, 0, 1000001), -1, api.ErrArg},
		{none, none, -1, api.ErrRange}, {none, none, greatest + 1, api.ErrRange}, {list(9, 0, 0, 0), none, math.MinInt, api.ErrRange},
	} {
		if weeks, e := board.Last(quarters(0), c.worn, c.week, c.limit); weeks != 0 || e != c.want {
			t.Error(c.worn, c.week, c.limit, weeks, e)
		}
	}
}
