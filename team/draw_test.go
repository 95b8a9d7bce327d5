package team_test

import (
	"math"
	"math/rand/v2"
	"slices"
	"testing"

	"oche/api"
	"oche/team"
)

// P10.4: each way to draw has its number, and the number of both keys is taken modulo the number of all ways.
func TestDraw(t *testing.T) {
	r := rand.New(rand.NewPCG(3, 10))
	for players := 1; players <= 7; players++ {
		all := ways(players)
		for number, want := range all {
			for range 3 {
				sum := number + len(all)*r.IntN((2*lastKey-number)/len(all))
				a := min(lastKey, r.IntN(sum+1))
				b := sum - a
				if b > lastKey {
					a, b = sum-lastKey, lastKey
				}
				if l, e := team.Draw(players, a, b); !slices.Equal(l, want) || e != api.OK {
					t.Fatal(players, a, b, l, e, want)
				}
			}
		}
	}
}

// P10.4: the first and the last lists of many players, and lists one after another.
func TestGreatDraws(t *testing.T) {
	all := 1
	for players := 1; players <= 12; players++ {
		all *= players
		up := make([]int, players)
		for i := range up {
			up[i] = i
		}
		down := slices.Clone(up)
		slices.Reverse(down)
		for _, c := range []struct {
			sum  int
			want []int
		}{{0, up}, {all - 1, down}, {all, up}, {2*all - 1, down}, {4 * all, up}} {
			if l, e := team.Draw(players, c.sum/3, c.sum-c.sum/3); !slices.Equal(l, c.want) || e != api.OK {
				t.Error(players, c.sum, l, e)
			}
		}
	}
	last, _ := team.Draw(12, 123456789, 0)
	for a := 123456790; a < 123457790; a++ {
		l, e := team.Draw(12, 0, a)
		sorted := slices.Clone(l)
		slices.Sort(sorted)
		if slices.Compare(last, l) >= 0 || len(sorted) != 12 || sorted[0] != 0 || sorted[11] != 11 || len(slices.Compact(sorted)) != 12 || e != api.OK {
			t.Fatal(a, last, l, e)
		}
		last = l
	}
}

// P10.4: how many players there are comes before the keys.
func TestDrawErrors(t *testing.T) {
	for _, n := range numbers() {
		for _, key := range ints(-1, 0, lastKey, lastKey+1) {
			want := api.OK
			if n < 1 || n > 12 {
				want = api.ErrRange
			} else if key < 0 || key > lastKey {
				want = api.ErrArg
			}
			l, e := team.Draw(n, key, 0)
			m, f := team.Draw(n, 0, key)
			if e != want || f != want || e != api.OK && (len(l) > 0 || len(m) > 0) {
				t.Error(n, key, l, e, m, f)
			}
		}
		if _, e := team.Draw(3, n, lastKey); (e == api.OK) != (n >= 0 && n <= lastKey) || e != api.OK && e != api.ErrArg {
			t.Error(n, e)
		}
	}
}

// handicap returns a handicap.
func handicap(start, step, least int) api.TeamHandicap {
	return api.TeamHandicap{Start: start, Step: step, Least: least}
}

// P10.5: starts of both sides.
func TestStarts(t *testing.T) {
	h := handicap(501, 20, 301)
	for i, c := range []struct {
		h          api.TeamHandicap
		home, away []int
		a, b       int
	}{
		{h, ints(7), ints(7), 501, 501}, {h, ints(0), ints(0), 501, 501}, {h, ints(7), ints(6), 501, 481}, {h, ints(6), ints(7), 481, 501}, {h, ints(12), ints(2), 501, 301}, {h, ints(12), ints(1), 501, 301}, {h, ints(11), ints(2), 501, 321}, {h, ints(99), ints(0), 501, 301},
		{h, ints(4, 3), ints(3, 4), 501, 501}, {h, ints(0, 8), ints(3, 4), 501, 481}, {h, ints(3, 4), ints(8, 0), 481, 501},
		{handicap(1001, 1001, 2), ints(99, 99), ints(0, 0), 1001, 2}, {handicap(1001, 1, 2), ints(99, 99), ints(0, 0), 1001, 803}, {handicap(1001, 5, 12), ints(0, 0), ints(99, 99), 12, 1001}, {handicap(1001, 5, 2), ints(0, 0), ints(99, 99), 11, 1001}, {handicap(501, 0, 2), ints(9), ints(0), 501, 501}, {handicap(501, 10, 501), ints(9), ints(0), 501, 501}, {handicap(2, 1001, 2), ints(9), ints(0), 2, 2}, {handicap(3, 1, 2), ints(9), ints(8), 3, 2},
	} {
		if a, b, e := team.Starts(c.h, c.home, c.away); a != c.a || b != c.b || e != api.OK {
			t.Error(i, a, b, e)
		}
	}
}

// P10.5: the handicap comes before the lists, and these before the grades.
func TestStartsErrors(t *testing.T) {
	for i, c := range []struct {
		h          api.TeamHandicap
		home, away []int
		e          api.Errno
	}{
		{handicap(1, 0, 1), ints(1), ints(1), api.ErrArg}, {handicap(1, 0, 2), ints(1), ints(1), api.ErrArg}, {handicap(1002, 0, 2), ints(1), ints(1), api.ErrArg}, {handicap(501, -1, 2), ints(1), ints(1), api.ErrArg}, {handicap(501, 1002, 2), ints(1), ints(1), api.ErrArg}, {handicap(501, 1, 1), ints(1), ints(1), api.ErrArg}, {handicap(501, 1, 502), ints(1), ints(1), api.ErrArg}, {handicap(math.MinInt, 1, 2), ints(1), ints(1), api.ErrArg}, {handicap(math.MaxInt, math.MaxInt, 2), ints(1), ints(1), api.ErrArg}, {handicap(501, math.MinInt, 2), ints(1), ints(1), api.ErrArg}, {handicap(501, 1, math.MinInt), ints(1), ints(1), api.ErrArg}, {handicap(501, 1, math.MaxInt), ints(1), ints(1), api.ErrArg},
		{handicap(501, 1, 502), nil, ints(100), api.ErrArg}, {handicap(501, 1, 301), nil, nil, api.ErrForm}, {handicap(501, 1, 301), ints(), ints(1), api.ErrForm}, {handicap(501, 1, 301), ints(1), nil, api.ErrForm}, {handicap(501, 1, 301), ints(1, 2), ints(1), api.ErrForm}, {handicap(501, 1, 301), ints(1), ints(1, 2), api.ErrForm}, {handicap(501, 1, 301), ints(1, 2, 3), ints(1, 2, 3), api.ErrForm}, {handicap(501, 1, 301), ints(-1), ints(100, 2), api.ErrForm}, {handicap(501, 1, 301), ints(-1, 2, 3), ints(100, 2, 3), api.ErrForm},
		{handicap(501, 1, 301), ints(-1), ints(1), api.ErrArg}, {handicap(501, 1, 301), ints(100), ints(1), api.ErrArg}, {handicap(501, 1, 301), ints(1), ints(-1), api.ErrArg}, {handicap(501, 1, 301), ints(1), ints(100), api.ErrArg}, {handicap(501, 1, 301), ints(1, 100), ints(1, 2), api.ErrArg}, {handicap(501, 1, 301), ints(1, 2), ints(1, -1), api.ErrArg}, {handicap(501, 1, 301), ints(math.MinInt), ints(math.MaxInt), api.ErrArg},
	} {
		if a, b, e := team.Starts(c.h, c.home, c.away); a != 0 || b != 0 || e != c.e {
			t.Error(i, a, b, e)
		}
	}
}

// P10.5: for any grades, the better side starts from Start, and the other one step by step lower, down to Least.
func TestStartsByText(t *testing.T) {
	r := rand.New(rand.NewPCG(4, 10))
	for range 20000 {
		h := handicap(2+r.IntN(1000), some(r, r.IntN(1002), r.IntN(9)), 0)
		h.Least = 2 + r.IntN(h.Start-1)
		home, away := ints(r.IntN(100)), ints(r.IntN(100))
		better := home[0] - away[0]
		if r.IntN(2) == 0 {
			home, away = append(home, r.IntN(100)), append(away, r.IntN(100))
			better += home[1] - away[1]
		}
		want := [2]int{h.Start, h.Start}
		worse := 1
		if better < 0 {
			worse, better = 0, -better
		}
		for range better {
			want[worse] = max(h.Least, want[worse]-h.Step)
		}
		if a, b, e := team.Starts(h, home, away); [2]int{a, b} != want || e != api.OK {
			t.Fatal(h, home, away, a, b, e)
		}
	}
}

// P10.8: the first rounds of all numbers of players.
func TestKnock(t *testing.T) {
	for players := 2; players <= 64; players++ {
		places := 64
		for places/2 >= players {
			places /= 2
		}
		var want [][2]int
		for i := range places / 2 {
			pair := [2]int{i, places - 1 - i}
			if pair[1] > players-1 {
				pair[1] = -1
			}
			want = append(want, pair)
		}
		if l, e := team.Knock(players); !slices.Equal(l, want) || e != api.OK {
			t.Error(players, l, e)
		}
	}
	for i, c := range []struct {
		players int
		want    [][2]int
	}{
		{2, [][2]int{{0, 1}}}, {3, [][2]int{{0, -1}, {1, 2}}}, {4, [][2]int{{0, 3}, {1, 2}}}, {5, [][2]int{{0, -1}, {1, -1}, {2, -1}, {3, 4}}}, {6, [][2]int{{0, -1}, {1, -1}, {2, 5}, {3, 4}}}, {7, [][2]int{{0, -1}, {1, 6}, {2, 5}, {3, 4}}}, {8, [][2]int{{0, 7}, {1, 6}, {2, 5}, {3, 4}}},
	} {
		if l, e := team.Knock(c.players); !slices.Equal(l, c.want) || e != api.OK {
			t.Error(i, l, e)
		}
	}
	for _, n := range append(numbers(), 63) {
		if l, e := team.Knock(n); (e == api.OK) != (n >= 2 && n <= 64) || e != api.OK && (e != api.ErrRange || len(l) > 0) {
			t.Error(n, l, e)
		}
	}
}
