package leg_test

import (
	"math"
	"math/rand/v2"
	"slices"
	"testing"

	"oche/api"
	"oche/leg"
)

// off returns a dart at the bull, and offs a round of darts that differ in Far alone.
func off(bed api.Bed, far int) api.LegOff { return api.LegOff{Bed: bed, Far: far} }

func offs(bed api.Bed, far ...int) []api.LegOff {
	var l []api.LegOff
	for _, n := range far {
		l = append(l, off(bed, n))
	}
	return l
}

// rounds returns its arguments.
func rounds(l ...[]api.LegOff) [][]api.LegOff { return l }

// P3.6: who throws first.
func TestOff(t *testing.T) {
	for i, c := range []struct {
		players int
		l       [][]api.LegOff
		want    int
	}{
		{1, nil, 0}, {1, rounds(), 0},
		// The eye is best wherever it is hit, then the bull, then what is nearest in any bed, and a miss is last.
		{2, rounds([]api.LegOff{off(api.Bull, 0), off(api.Eye, 10000)}), 1}, {2, rounds([]api.LegOff{off(101, 0), off(api.Bull, 10000)}), 1}, {2, rounds([]api.LegOff{off(101, 0), off(api.Eye, 10000)}), 1}, {2, rounds([]api.LegOff{off(api.Miss, 0), off(320, 10000)}), 1}, {2, rounds([]api.LegOff{off(api.Miss, 0), off(api.Bull, 10000)}), 1},
		{3, rounds([]api.LegOff{off(101, 300), off(320, 299), off(420, 301)}), 1}, {3, rounds(offs(205, 10000, 9999, 10000)), 1}, {2, rounds(offs(205, 0, 1)), 0},
		// Whoever has a best dart stays in question, and keeps the own number.
		{3, rounds(offs(api.Eye, 5, 4, 3), offs(api.Bull, 5, 4, 3), offs(api.Miss, 5, 4, 3), offs(101, 5, 5, 5), offs(101, 5, 4, 3)), 2},
		{8, rounds([]api.LegOff{off(101, 5), off(api.Bull, 6), off(101, 7), off(api.Bull, 1), off(api.Miss, 3), off(api.Bull, 8), off(101, 0), off(api.Bull, 2)}, offs(103, 90, 80, 80, 85), offs(api.Miss, 1, 0), []api.LegOff{off(api.Miss, 0), off(101, 10000)}), 5},
		{8, rounds(offs(104, 9, 9, 9, 9, 9, 9, 9, 8)), 7},
		{3, rounds([]api.LegOff{off(api.Miss, 1), off(api.Miss, 2), off(104, 10000)}), 2}, {3, rounds([]api.LegOff{off(101, 10000), off(102, 10000), off(api.Miss, 0)}, offs(101, 7, 6)), 1},
		// So many rounds are allowed.
		{2, append(slices.Repeat(rounds(offs(api.Miss, 0, 0)), 49), offs(101, 2, 1)), 1},
	} {
		if who, e := leg.Off(c.players, c.l); who != c.want || e != api.OK {
			t.Error(i, who, e)
		}
	}
}

// P3.6: the errors of Off, in their order.
func TestOffErrors(t *testing.T) {
	even := offs(101, 5, 5)
	for i, c := range []struct {
		players int
		l       [][]api.LegOff
		want    api.Errno
	}{
		{0, nil, api.ErrRange}, {-1, nil, api.ErrRange}, {9, make([][]api.LegOff, 51), api.ErrRange}, {math.MinInt, nil, api.ErrRange}, {math.MaxInt, nil, api.ErrRange}, {9, rounds(offs(999, -1)), api.ErrRange},
		{2, make([][]api.LegOff, 51), api.ErrLong}, {1, make([][]api.LegOff, 51), api.ErrLong}, {2, slices.Repeat(rounds(even), 51), api.ErrLong},
		{1, rounds(nil), api.ErrOver}, {1, rounds(offs(101, 0)), api.ErrOver}, {1, make([][]api.LegOff, 50), api.ErrOver}, {2, rounds(offs(101, 5, 4), nil), api.ErrOver}, {2, rounds(offs(101, 5, 4), offs(101, 5)), api.ErrOver}, {2, rounds(offs(101, 5, 4), offs(999, 1, 1)), api.ErrOver},
		{2, rounds(nil), api.ErrForm}, {2, rounds(offs(101, 5)), api.ErrForm}, {2, rounds(offs(999, -5)), api.ErrForm}, {2, rounds(offs(101, 5, 6, 7)), api.ErrForm}, {3, rounds(offs(101, 5, 5, 6), offs(101, 5, 6, 7)), api.ErrForm}, {3, rounds(offs(101, 5, 5, 6), offs(101, 5)), api.ErrForm}, {2, make([][]api.LegOff, 50), api.ErrForm},
		{2, rounds(offs(121, 5, 4)), api.ErrArg}, {2, rounds([]api.LegOff{off(101, 5), off(325, 5)}), api.ErrArg}, {2, rounds([]api.LegOff{off(25, 5), off(101, 5)}), api.ErrArg}, {2, rounds(offs(101, 5, -1)), api.ErrArg}, {2, rounds(offs(101, 10001, 5)), api.ErrArg}, {2, rounds(offs(api.Eye, 5, 10001)), api.ErrArg}, {2, rounds(offs(api.Miss, -1, 5)), api.ErrArg}, {2, rounds(offs(math.MinInt, 5, 5)), api.ErrArg}, {2, rounds(offs(api.Bull, math.MaxInt, math.MinInt)), api.ErrArg}, {2, rounds(even, even, offs(101, 5, -1)), api.ErrArg},
		{2, nil, api.ErrShort}, {8, nil, api.ErrShort}, {2, rounds(even), api.ErrShort}, {3, rounds(offs(101, 5, 6, 5)), api.ErrShort}, {2, rounds(offs(api.Miss, 0, 10000)), api.ErrShort}, {2, rounds(offs(api.Eye, 0, 10000)), api.ErrShort}, {2, rounds(offs(api.Bull, 0, 10000)), api.ErrShort}, {2, slices.Repeat(rounds(even), 50), api.ErrShort},
	} {
		if who, e := leg.Off(c.players, c.l); who != 0 || e != c.want {
			t.Error(i, who, e)
		}
	}
}

// bestByText returns the players with a best dart, by the text of P3.6.
func bestByText(players []int, darts []api.LegOff) []int {
	hit := func(is func(api.LegOff) bool) []int {
		var l []int
		for i, player := range players {
			if is(darts[i]) {
				l = append(l, player)
			}
		}
		return l
	}
	for _, bed := range list(api.Eye, api.Bull) {
		if l := hit(func(d api.LegOff) bool { return d.Bed == bed }); len(l) > 0 {
			return l
		}
	}
	for far := range 10001 {
		if l := hit(func(d api.LegOff) bool { return d.Bed != api.Miss && d.Far == far }); len(l) > 0 {
			return l
		}
	}
	return players
}

// P3.6: whatever is thrown, the one who is left is the one that the text says.
func TestOffByText(t *testing.T) {
	r := rand.New(rand.NewPCG(4, 3))
	for range 20000 {
		players := 1 + r.IntN(8)
		var staying []int
		for p := range players {
			staying = append(staying, p)
		}
		var l [][]api.LegOff
		for len(staying) > 1 && len(l) < 50 {
			var darts []api.LegOff
			for range staying {
				bed := list(101, 320, api.Miss, api.Miss, api.Bull, api.Eye)[r.IntN(2+r.IntN(5))]
				darts = append(darts, off(bed, r.IntN(3)))
			}
			l, staying = append(l, darts), bestByText(staying, darts)
		}
		if len(staying) > 1 {
			continue
		}
		if who, e := leg.Off(players, l); who != staying[0] || e != api.OK {
			t.Fatal(players, l, who, e, staying)
		}
		if len(l) == 0 {
			continue
		}
		if who, e := leg.Off(players, l[:len(l)-1]); who != 0 || e != api.ErrShort {
			t.Fatal(players, l, who, e)
		}
	}
}
