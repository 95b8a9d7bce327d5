package game_test

import (
	"math/rand/v2"
	"slices"
	"testing"

	"oche/api"
	"oche/game"
)

// P4.3: the shortest lists of darts that win in this visit.
func TestSoon(t *testing.T) {
	a, b, c := closing()
	three := killer(1, true, 5, 9, 7)
	for i, x := range []struct {
		r           api.GameRules
		darts, beds []api.Bed
		want        [][]api.Bed
	}{
		// No beds, beds that do not help, and more darts than the visit has left.
		{round(1, 1, false, false), nil, nil, nil}, {round(1, 2, false, false), nil, list(102, 202, 0), nil}, {round(1, 4, false, false), nil, list(101, 102, 103, 104), nil}, {round(1, 3, false, false), list(0), list(101, 102, 103), nil}, {round(2, 3, false, false), list(101, 102, 0, 0, 0), list(101, 102, 103), nil},
		// The beds in any order; as few darts as are enough.
		{round(1, 3, false, false), nil, list(103, 101, 102), [][]api.Bed{{101, 102, 103}}}, {round(1, 1, false, false), nil, list(401, 101, 0, 201), [][]api.Bed{{101}, {201}, {401}}}, {round(1, 3, false, true), nil, list(102, 301, 103, 101, 402, 201), [][]api.Bed{{301}}}, {round(1, 3, false, true), nil, list(103, 101, 402, 201), [][]api.Bed{{101, 402}, {201, 103}}},
		{round(2, 2, true, false), list(101, 0, 0, 0, 0, 0), list(225, 202, 125, 102), [][]api.Bed{{102, 125}, {102, 225}, {202, 125}, {202, 225}}}, {round(2, 2, true, false), list(101, 0, 0, 0, 0, 0, 0), list(125, 102), [][]api.Bed{{102, 125}}}, {round(2, 2, true, false), list(101, 0, 0, 0, 0, 0, 0, 0), list(125, 102), nil},
		{shanghai(2, 7), list(101), list(201, 301, 101), [][]api.Bed{{201, 301}, {301, 201}}}, {shanghai(2, 7), list(101, 201), list(201, 301, 101, 302), [][]api.Bed{{301}}}, {shanghai(2, 7), list(101, 201, 0), list(301), nil}, {shanghai(2, 7), list(101, 401), list(101, 201, 301), nil},
		// By the end of the rounds, with others or alone.
		{shanghai(2, 1), list(101, 0, 0), list(101, 0), [][]api.Bed{{0, 0, 101}, {0, 101, 0}, {0, 101, 101}, {101, 0, 0}, {101, 0, 101}, {101, 101, 0}, {101, 101, 101}}}, {shanghai(2, 1), list(401, 0, 0, 101, 201), list(101, 301, 0, 401), [][]api.Bed{{101}, {301}, {401}}}, {shanghai(2, 1), list(401, 401, 401, 0, 0), list(401, 0), nil}, {shanghai(2, 1), nil, list(401), nil},
		{cricket(2, 1, false), list(120, 0, 0, 0, 0), list(0, 114, 101, 115, 225), [][]api.Bed{{115}, {225}}}, {cricket(2, 1, true), list(320, 0, 0, 0, 220), list(0, 120, 119, 114, 220), [][]api.Bed{{119}, {120}, {220}}}, {cricket(2, 20, false), join(a, rest(), b, rest()), c, [][]api.Bed{{125, 225}, {225, 125}, {225, 225}}}, {cricket(3, 20, true), join(behind(), list(315, 315, 415)), list(0, 320), [][]api.Bed{{0}, {320}}},
		// Who gets out has no more darts, and does not win if another one is left alone; others can be out before.
		{three, nil, list(205, 207, 209), [][]api.Bed{{205, 207, 209}, {205, 209, 207}}}, {three, list(205), list(209, 207, 205), [][]api.Bed{{207, 209}, {209, 207}}}, {three, list(205, 0), list(209, 207), nil}, {three, list(205, 207, 0), list(0, 209, 205), [][]api.Bed{{209, 205}}}, {three, list(205, 207, 0, 0), list(0, 209, 205), [][]api.Bed{{209, 205}}}, {three, list(205, 207, 0, 0, 0), list(0, 209, 205), nil}, {three, list(205, 207, 0, 0, 0, 0), list(0, 209, 205), [][]api.Bed{{209}}}, {three, list(205, 207), list(0, 209, 205), [][]api.Bed{{209}}}, {killer(1, true, 5, 9), list(205), list(205), nil}, {killer(1, true, 5, 9), list(205, 0, 0, 209), list(205, 209), [][]api.Bed{{205}}}, {killer(2, false, 5, 9), nil, list(205, 209), [][]api.Bed{{205, 209, 209}}}, {killer(1, false, 5, 9), list(205), list(205, 209), [][]api.Bed{{209}}},
	} {
		if ways, e := game.Soon(x.r, x.darts, x.beds); !sameLists(ways, x.want) || e != api.OK {
			t.Error(i, ways, e)
		}
	}
	// As many beds as are allowed, and as many lists as there can be.
	if ways, e := game.Soon(shanghai(2, 1), list(0, 0, 0), allBeds()[20:40]); len(ways) != 8000 || e != api.OK {
		t.Error(len(ways), e)
	}
}

// P4.3: the errors of Soon, in their order.
func TestSoonErrors(t *testing.T) {
	r, over := round(1, 2, false, false), list(101, 102)
	for i, c := range []struct {
		darts, beds []api.Bed
		want        api.Errno
	}{
		{over, nil, api.ErrState}, {over, misses(21), api.ErrState}, {over, list(999), api.ErrState}, {over, list(101, 101), api.ErrState}, {over, list(101), api.ErrState},
		{nil, misses(21), api.ErrLong}, {nil, allBeds()[:21], api.ErrLong}, {nil, slices.Repeat(list(999), 21), api.ErrLong}, {list(101), allBeds(), api.ErrLong},
		{nil, list(999), api.ErrArg}, {nil, list(101, 101, 999), api.ErrArg}, {nil, append(misses(19), 325), api.ErrArg}, {list(101), list(0, -101), api.ErrArg},
		{nil, list(101, 101), api.ErrTwice}, {nil, list(0, 101, 0), api.ErrTwice}, {nil, misses(20), api.ErrTwice}, {nil, append(allBeds()[:19], 101), api.ErrTwice}, {list(101), list(102, 103, 103), api.ErrTwice},
	} {
		if ways, e := game.Soon(r, c.darts, c.beds); len(ways) != 0 || e != c.want {
			t.Error(i, ways, e)
		}
	}
	for _, bed := range noBeds() {
		if ways, e := game.Soon(r, nil, list(101, bed)); len(ways) != 0 || e != api.ErrArg {
			t.Error(bed, ways, e)
		}
	}
}

// someBeds returns a few beds, some of which do something in a state; none is there twice.
func someBeds(r *rand.Rand, rules api.GameRules, s api.GameState) []api.Bed {
	var beds []api.Bed
	for range r.IntN(10) {
		bed := good(r, rules, s, 3)
		if r.IntN(4) == 0 {
			bed = some(r, append(allBeds(), misses(30)...)...)
		}
		if !slices.Contains(beds, bed) {
			beds = append(beds, bed)
		}
	}
	return beds
}

// P4.3: in games of all sorts Soon returns what trying all lists does.
func TestSoonByText(t *testing.T) {
	r := rand.New(rand.NewPCG(1, 4))
	found := map[api.GameKind][4]int{}
	for range 15000 {
		rules := randomRules(r, some(r, kinds()...))
		// Most games are followed nearly to their end.
		darts, s := randomDarts(r, rules, some(r, r.IntN(60), 300))
		if len(s.Winners) > 0 {
			darts = darts[:max(0, len(darts)-1-r.IntN(3))]
		}
		s, _, _ = stateByText(rules, darts)
		beds := someBeds(r, rules, s)
		want := soonByText(rules, darts, beds)
		if ways, e := game.Soon(rules, darts, beds); !sameLists(ways, want) || e != api.OK {
			t.Fatal(rules, darts, beds, ways, e, want)
		}
		n := found[rules.Kind]
		if len(want) > 0 {
			n[len(want[0])]++
		} else {
			n[0]++
		}
		found[rules.Kind] = n
	}
	for _, kind := range kinds() {
		if n := found[kind]; slices.Min(n[:]) < 50 {
			t.Error("too few games of some sort:", kind, n)
		}
	}
}

// doubles returns the doubles of numbers.
func doubles(numbers ...int) []api.Bed {
	var beds []api.Bed
	for _, n := range numbers {
		beds = append(beds, api.Bed(200+n))
	}
	return beds
}

// allOf returns all beds of numbers up to 20; for ascending numbers they are ascending.
func allOf(numbers ...int) []api.Bed {
	var beds []api.Bed
	for factor := 100; factor <= 400; factor += 100 {
		for _, n := range numbers {
			beds = append(beds, api.Bed(factor+n))
		}
	}
	return beds
}

// P4.4: the beds that do something.
func TestUseful(t *testing.T) {
	a, b, c := closing()
	number := allOf(15, 16, 17, 18, 19, 20)
	marks := append(slices.Clone(number), api.Bull, api.Eye)
	slices.Sort(marks)
	three := killer(1, true, 5, 9, 7)
	for i, x := range []struct {
		r     api.GameRules
		darts []api.Bed
		want  []api.Bed
	}{
		{round(1, 5, true, true), nil, allOf(1)}, {round(2, 20, true, false), list(101, 0, 0), allOf(1)}, {round(1, 20, false, true), list(401, 405, 409, 413), allOf(17)}, {round(1, 1, true, false), list(101), list(api.Bull, api.Eye)}, {round(1, 1, false, false), nil, allOf(1)}, {round(8, 20, true, true), list(0, 0, 0, 101, 102), allOf(3)},
		{shanghai(2, 7), nil, allOf(1)}, {shanghai(2, 20), misses(114), allOf(20)}, {shanghai(2, 7), list(101, 201), allOf(1)}, {shanghai(2, 1), misses(5), allOf(1)},
		{cricket(2, 20, false), nil, marks},
		// A number that is closed for all does nothing, one that is closed for this player alone gives points.
		{cricket(2, 20, false), list(315, 0, 0), marks}, {cricket(2, 20, false), list(315, 0, 0, 315, 0, 0), slices.DeleteFunc(slices.Clone(marks), func(bed api.Bed) bool { return bed%100 == 15 })}, {cricket(2, 20, true), list(225, 225, 0, 225, 125, 0), number}, {cricket(2, 20, false), join(a, a, b, b), list(api.Bull, api.Eye)}, {cricket(2, 20, false), join(list(320, 320, 0), a, rest(), b, rest(), c), slices.DeleteFunc(slices.Clone(marks), func(bed api.Bed) bool { return bed%100 == 20 })},
		// With the last dart of the rounds even points that do not change the winner are something. Where a miss wins as well, a bed must change what players have.
		{cricket(2, 1, false), list(320, 120, 0, 0, 0), marks}, {cricket(3, 20, true), join(behind(), list(315, 415, 320)), slices.DeleteFunc(slices.Clone(marks), func(bed api.Bed) bool { return bed%100 == 20 })},
		{three, nil, list(205)}, {three, list(205), list(205, 207, 209)}, {three, list(205, 0, 0), list(209)}, {three, list(205, 209), list(205, 207)}, {three, list(205, 209, 0), list(207)}, {killer(3, false, 5, 9), list(205), list(209)}, {killer(3, false, 20, 1), list(220, 201, 201), list(201)}, {killer(9, true, 8, 7, 6, 5, 4, 3, 2, 1), list(208), doubles(1, 2, 3, 4, 5, 6, 7, 8)},
	} {
		if beds, e := game.Useful(x.r, x.darts); !slices.Equal(beds, x.want) || e != api.OK {
			t.Error(i, beds, e)
		}
	}
	// After the end there is no next dart.
	for i, x := range []play{{r: round(1, 1, false, false), darts: list(101)}, {r: shanghai(2, 1), darts: misses(6)}, {r: three, darts: list(205, 207, 209)}, {r: cricket(2, 1, true), darts: misses(6)}} {
		if beds, e := game.Useful(x.r, x.darts); len(beds) != 0 || e != api.ErrState {
			t.Error(i, beds, e)
		}
	}
}

// P4.4: in games of all sorts Useful returns what trying all beds does.
func TestUsefulByText(t *testing.T) {
	r := rand.New(rand.NewPCG(2, 4))
	found := map[api.GameKind]int{}
	for range 2000 {
		rules := randomRules(r, some(r, kinds()...))
		darts, s := randomDarts(r, rules, some(r, r.IntN(60), 300))
		if len(s.Winners) > 0 {
			darts = darts[:len(darts)-1]
		}
		want := usefulByText(rules, darts)
		if beds, e := game.Useful(rules, darts); !slices.Equal(beds, want) || e != api.OK {
			t.Fatal(rules, darts, beds, e, want)
		}
		if len(want) > 0 {
			found[rules.Kind]++
		}
	}
	for _, kind := range kinds() {
		if found[kind] < 300 {
			t.Error("too few games of some sort:", found)
		}
	}
}
