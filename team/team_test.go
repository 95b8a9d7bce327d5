package team_test

import (
	"math"
	"math/rand/v2"
	"slices"
	"testing"

	"oche/api"
	"oche/team"
)

// wrongRules returns rules that are not valid, by what is wrong.
func wrongRules() map[string]api.TeamRules {
	single, pair := game(1, 3, 1), game(2, 3, 1)
	wrong := map[string]api.TeamRules{
		"nothing": {}, "no games": rules(4, 2, 1), "empty games": rules(4, 2, 1, []api.TeamGame{}...), "21 games": rules(4, 2, 1, slices.Repeat([]api.TeamGame{single}, 21)...),
		"squad 0": rules(0, 2, 1, single), "squad 17": rules(17, 2, 1, single), "a pair of one": rules(1, 2, 1, single, pair), "the last game": rules(4, 2, 1, single, pair, game(1, 0, 1)), "the first game": rules(4, 2, 1, game(1, 16, 1), single, pair),
		"0 players": rules(4, 2, 1, game(0, 3, 1)), "3 players": rules(4, 2, 1, game(3, 3, 1)), "0 legs": rules(4, 2, 1, game(1, 0, 1)), "16 legs": rules(4, 2, 1, game(1, 16, 1)), "-1 points": rules(4, 2, 1, game(1, 3, -1)), "100 points": rules(4, 2, 1, game(1, 3, 100)),
		"most 0": rules(4, 0, 1, single), "most 21": rules(4, 21, 1, single), "bonus -1": rules(4, 2, -1, single), "bonus 100": rules(4, 2, 100, single),
	}
	for name, n := range map[string]int{"least": math.MinInt, "greatest": math.MaxInt} {
		wrong[name+" squad"], wrong[name+" most"], wrong[name+" bonus"] = rules(n, 2, 1, single), rules(4, n, 1, single), rules(4, 2, n, single)
		wrong[name+" players"], wrong[name+" legs"], wrong[name+" points"] = rules(4, 2, 1, game(n, 3, 1)), rules(4, 2, 1, game(1, n, 1)), rules(4, 2, 1, game(1, 3, n))
	}
	return wrong
}

// P10.1: rules that are valid, and rules that are not; Seal, Open and Night want valid ones before anything else.
func TestCheck(t *testing.T) {
	for i, r := range []api.TeamRules{
		example(), greatest(), rules(1, 1, 0, game(1, 1, 0)), rules(2, 1, 0, game(2, 1, 0)), rules(16, 20, 99, game(2, 15, 99)), rules(1, 20, 0, slices.Repeat([]api.TeamGame{game(1, 1, 99)}, 20)...), rules(2, 1, 0, slices.Repeat([]api.TeamGame{game(2, 1, 1)}, 20)...),
	} {
		if e := team.Check(r); e != api.OK {
			t.Error(i, e)
		}
	}
	for name, r := range wrongRules() {
		if e := team.Check(r); e != api.ErrArg {
			t.Error(name, e)
		}
		for _, o := range []api.TeamOrder{{}, order(-1), order(1, ints(0))} {
			if s, e := team.Seal(r, o); e != api.ErrArg || !sameSeal(s, api.TeamSeal{}) {
				t.Error(name, s, e)
			}
		}
		for _, key := range ints(-1, 0, 1) {
			for _, s := range []api.TeamSeal{{}, seal(1, 1), seal(7, 48271)} {
				if o, e := team.Open(r, s, key); e != api.ErrArg || !sameOrder(o, api.TeamOrder{}) {
					t.Error(name, o, e)
				}
			}
		}
		for _, l := range [][]api.TeamSheet{nil, {sheet(0, 3, 1)}, {{}, sheet(-1, 0, 0)}, make([]api.TeamSheet, 201)} {
			if x, at, e := team.Night(r, l); e != api.ErrArg || at != 0 || !sameResult(x, api.TeamResult{}) {
				t.Error(name, x, at, e)
			}
		}
	}
}

// P10.2: seals of orders, and orders that are not valid.
func TestSeal(t *testing.T) {
	single, pair := rules(16, 1, 0, game(1, 1, 1)), rules(16, 1, 0, game(2, 1, 1))
	for i, c := range []struct {
		r    api.TeamRules
		o    api.TeamOrder
		want api.TeamSeal
	}{
		{single, order(0, ints(0)), seal(1, 1)}, {single, order(0, ints(15)), seal(1, 16)}, {single, order(1, ints(0)), seal(7, 48271)}, {single, order(2, ints(0)), seal(49, 182605794)},
		{pair, order(0, ints(0, 1)), seal(1, 17)}, {pair, order(0, ints(14, 15)), seal(1, 255)}, {pair, order(0, ints(0, 15)), seal(1, 241)}, {pair, order(1, ints(0, 1)), seal(7, 17*48271)},
		// By the key lastKey 7 is taken one time less than the power that is 1.
		{single, order(lastKey, ints(6)), seal(1840700269, sealByText(order(lastKey, ints(6))).B[0])},
		{rules(1, 3, 0, game(1, 1, 1), game(1, 1, 1), game(1, 1, 1)), order(1, ints(0), ints(0), ints(0)), seal(7, 48271, 182605794, 1291394886)},
		// As many games as Most, and no more.
		{rules(2, 2, 0, game(1, 1, 1), game(1, 1, 1)), order(0, ints(1), ints(1)), seal(1, 2, 2)}, {rules(3, 2, 0, game(1, 1, 1), game(2, 1, 1), game(2, 1, 1)), order(0, ints(0), ints(0, 2), ints(1, 2)), seal(1, 1, 33, 34)},
	} {
		if s, e := team.Seal(c.r, c.o); !sameSeal(s, c.want) || e != api.OK {
			t.Error(i, s, e)
		}
	}
}

// wrongOrders returns orders that are not valid for the rules of the examples.
func wrongOrders() []api.TeamOrder {
	one, two, three := ints(2), ints(0), ints(1, 3)
	return []api.TeamOrder{
		{}, order(0), order(0, one), order(0, one, two), order(0, one, two, three, one), order(0, one, two, three, nil), order(0, nil, nil, nil),
		order(0, nil, two, three), order(0, one, ints(0, 1), three), order(0, one, two, ints(1)), order(0, one, two, ints(1, 2, 3)), order(0, one, two, nil),
		order(0, ints(-1), two, three), order(0, ints(4), two, three), order(0, one, ints(math.MinInt), three), order(0, one, ints(math.MaxInt), three), order(0, one, two, ints(1, 4)), order(0, one, two, ints(-1, 1)),
		order(0, one, two, ints(3, 1)), order(0, one, two, ints(1, 1)), order(0, one, two, ints(math.MaxInt, math.MinInt)),
		order(0, ints(1), ints(1), three), order(0, ints(3), ints(3), three),
		order(-1, one, two, three), order(lastKey+1, one, two, three), order(prime, one, two, three), order(math.MinInt, one, two, three), order(math.MaxInt, one, two, three),
	}
}

// P10.2: ErrForm for orders that are not valid, in each of the ways.
func TestSealErrors(t *testing.T) {
	for i, o := range wrongOrders() {
		if s, e := team.Seal(example(), o); e != api.ErrForm || !sameSeal(s, api.TeamSeal{}) {
			t.Error(i, s, e)
		}
	}
	// A player is in one game more than Most, in the last two games of many.
	r, o := greatest(), order(5)
	for range 10 {
		o.Players = append(o.Players, ints(3), ints(3, 4))
	}
	if _, e := team.Seal(r, o); e != api.OK {
		t.Error(e)
	}
	r.Most = 19
	if s, e := team.Seal(r, o); e != api.ErrForm || !sameSeal(s, api.TeamSeal{}) {
		t.Error(s, e)
	}
}

// P10.2: seals are the same as by the text, and what the text does not allow is not closed.
func TestSealByText(t *testing.T) {
	r := rand.New(rand.NewPCG(1, 10))
	closed := 0
	for range 5000 {
		l := randomRules(r, some(r, 4, 20), 15, 99)
		o := randomOrder(r, l)
		if r.IntN(4) == 0 {
			i := r.IntN(len(o.Players))
			o.Players[i] = some(r, append(o.Players[i], 0), slices.Repeat(ints(r.IntN(17)-1), len(o.Players[i])), ints(r.IntN(18)-1, r.IntN(18)-1))
		}
		s, e := team.Seal(l, o)
		if !validByText(l, o) {
			if e != api.ErrForm || !sameSeal(s, api.TeamSeal{}) {
				t.Fatal(l, o, s, e)
			}
			continue
		}
		if closed++; !sameSeal(s, sealByText(o)) || e != api.OK {
			t.Fatal(l, o, s, e)
		}
	}
	if closed < 1000 || closed > 4500 {
		t.Error(closed)
	}
}

// P10.3: what is opened, and each error in its place.
func TestOpen(t *testing.T) {
	single, pair, three := rules(16, 1, 0, game(1, 1, 1)), rules(16, 1, 0, game(2, 1, 1)), example()
	for i, c := range []struct {
		r    api.TeamRules
		s    api.TeamSeal
		key  int
		want api.TeamOrder
		e    api.Errno
	}{
		{single, seal(1, 1), 0, order(0, ints(0)), api.OK}, {single, seal(1, 16), 0, order(0, ints(15)), api.OK}, {pair, seal(1, 17), 0, order(0, ints(0, 1)), api.OK}, {pair, seal(1, 255), 0, order(0, ints(14, 15)), api.OK}, {three, seal(1, 3, 1, 50), 0, order(0, ints(2), ints(0), ints(1, 3)), api.OK},
		{single, seal(7, 16*48271), 1, order(1, ints(15)), api.OK}, {pair, seal(7, 17*48271), 1, order(1, ints(0, 1)), api.OK},
		// The key comes first, then the form of the seal, and then what it holds.
		{single, seal(0), -1, api.TeamOrder{}, api.ErrRange}, {single, seal(1, 1), lastKey + 1, api.TeamOrder{}, api.ErrRange}, {single, seal(1, 1), prime - 1, api.TeamOrder{}, api.ErrRange}, {single, seal(1, 1), math.MinInt, api.TeamOrder{}, api.ErrRange}, {single, seal(1, 1), math.MaxInt, api.TeamOrder{}, api.ErrRange},
		{single, seal(1), 0, api.TeamOrder{}, api.ErrForm}, {single, seal(1, 1, 1), 0, api.TeamOrder{}, api.ErrForm}, {three, seal(1, 3, 1), 0, api.TeamOrder{}, api.ErrForm}, {three, seal(1, 3, 1, 50, 1), 0, api.TeamOrder{}, api.ErrForm},
		{single, seal(0, 1), 0, api.TeamOrder{}, api.ErrForm}, {single, seal(prime, 1), 0, api.TeamOrder{}, api.ErrForm}, {single, seal(prime+1, 1), 0, api.TeamOrder{}, api.ErrForm}, {single, seal(-1, 1), 0, api.TeamOrder{}, api.ErrForm}, {single, seal(math.MinInt, 1), 0, api.TeamOrder{}, api.ErrForm}, {single, seal(math.MaxInt, 1), 0, api.TeamOrder{}, api.ErrForm},
		{single, seal(1, 0), 0, api.TeamOrder{}, api.ErrForm}, {single, seal(1, prime), 0, api.TeamOrder{}, api.ErrForm}, {single, seal(1, prime+1), 0, api.TeamOrder{}, api.ErrForm}, {single, seal(2, 0), 0, api.TeamOrder{}, api.ErrForm}, {three, seal(2, 3, 1, 0), 0, api.TeamOrder{}, api.ErrForm}, {three, seal(1, 3, math.MaxInt, 50), 0, api.TeamOrder{}, api.ErrForm}, {three, seal(1, math.MinInt, 1, 50), 0, api.TeamOrder{}, api.ErrForm},
		{single, seal(7, 1), 0, api.TeamOrder{}, api.ErrState}, {single, seal(1, 1), 1, api.TeamOrder{}, api.ErrState}, {single, seal(prime-1, prime-1), 0, api.TeamOrder{}, api.ErrState}, {single, seal(2, prime-1), lastKey, api.TeamOrder{}, api.ErrState},
		{single, seal(1, 17), 0, api.TeamOrder{}, api.ErrNone}, {single, seal(1, prime-1), 0, api.TeamOrder{}, api.ErrNone}, {rules(15, 1, 0, game(1, 1, 1)), seal(1, 16), 0, api.TeamOrder{}, api.ErrNone}, {single, seal(7, 16), 1, api.TeamOrder{}, api.ErrNone},
		{pair, seal(1, 16), 0, api.TeamOrder{}, api.ErrNone}, {pair, seal(1, 1), 0, api.TeamOrder{}, api.ErrNone}, {pair, seal(1, 18), 0, api.TeamOrder{}, api.ErrNone}, {pair, seal(1, 19), 0, api.TeamOrder{}, api.ErrNone}, {pair, seal(1, 256), 0, api.TeamOrder{}, api.ErrNone}, {pair, seal(1, 257), 0, api.TeamOrder{}, api.ErrNone}, {pair, seal(1, 273), 0, api.TeamOrder{}, api.ErrNone}, {rules(15, 1, 0, game(2, 1, 1)), seal(1, 255), 0, api.TeamOrder{}, api.ErrNone},
		{three, seal(1, 3, 1, 18), 0, api.TeamOrder{}, api.ErrNone}, {three, seal(1, 5, 1, 50), 0, api.TeamOrder{}, api.ErrNone}, {three, seal(1, 3, 1, 65), 0, api.TeamOrder{}, api.ErrNone},
		// Each number is a code, but player 1 is in three games.
		{three, seal(1, 2, 2, 50), 0, api.TeamOrder{}, api.ErrNone}, {three, seal(1, 2, 2, 49), 0, order(0, ints(1), ints(1), ints(0, 3)), api.OK},
	} {
		if o, e := team.Open(c.r, c.s, c.key); !sameOrder(o, c.want) || e != c.e {
			t.Error(i, o, e)
		}
	}
}

// P10.3: exactly the seals of all orders are opened, with the order that has it, as found by trying all of them.
func TestOpenByText(t *testing.T) {
	r := rand.New(rand.NewPCG(2, 10))
	for _, l := range []api.TeamRules{
		rules(16, 1, 0, game(1, 1, 1)), rules(16, 1, 0, game(2, 1, 1)), rules(7, 1, 0, game(2, 1, 1)), rules(5, 2, 0, game(2, 1, 1), game(1, 1, 1)), rules(4, 1, 0, game(1, 1, 1), game(2, 1, 1)), rules(3, 2, 0, game(1, 1, 1), game(1, 1, 1), game(1, 1, 1)), rules(2, 1, 0, game(2, 1, 1), game(1, 1, 1)),
	} {
		for range 3 {
			key := randomKey(r)
			valid := map[[3]int]api.TeamOrder{}
			for _, o := range ordersByText(l, key) {
				var b [3]int
				copy(b[:], sealByText(o).B)
				valid[b] = o
			}
			a := sealByText(order(key)).A
			for _, codes := range codesFor(l) {
				s := seal(a, closed(codes, key)...)
				var b [3]int
				copy(b[:], s.B)
				want, there := valid[b]
				if o, e := team.Open(l, s, key); !sameOrder(o, want) || there && e != api.OK || !there && e != api.ErrNone {
					t.Fatal(l, codes, key, o, e, want)
				}
				delete(valid, b)
			}
			if len(valid) > 0 {
				t.Fatal(l, valid)
			}
		}
	}
}

// codesFor returns all lists of numbers with which the games of an order could be closed, and some that are too great.
func codesFor(l api.TeamRules) [][]int {
	all := [][]int{nil}
	for _, g := range l.Games {
		most := 20
		if g.Players == 2 {
			most = 300
		}
		var longer [][]int
		for _, codes := range all {
			for code := 1; code <= most; code++ {
				longer = append(longer, append(slices.Clip(codes), code))
			}
		}
		all = longer
	}
	return all
}

// closed returns the numbers of a seal with these codes.
func closed(codes []int, key int) []int {
	var b []int
	for i, code := range codes {
		one := order(key, slices.Repeat([][]int{ints(0)}, i+1)...)
		b = append(b, sealByText(one).B[i]*code%prime)
	}
	return b
}
