package out_test

import (
	"math"
	"slices"
	"testing"

	"oche/api"
	"oche/out"
)

// P2.1: rules that are valid, and rules that are not.
func TestCheck(t *testing.T) {
	for _, r := range append(rules(), with(api.GateMaster, 9, all(4)...), with(api.GateAny, 1, api.Bull), with(api.GateAny, 1, api.Eye), with(api.GateAny, 1, 420), with(api.GateAny, 1, 120, 125, 201)) {
		if e := out.Check(r); e != api.OK {
			t.Error(r, e)
		}
	}
	for name, r := range wrongRules() {
		if e := out.Check(r); e != api.ErrArg {
			t.Error(name, e)
		}
	}
	if len(all(4)) != api.MaxOutBeds {
		t.Error(len(all(4)))
	}
}

// P2.1: each single bed, and all that is none.
func TestCheckBeds(t *testing.T) {
	beds := all(4)
	for bed := api.Bed(-600); bed < 1200; bed++ {
		want := api.ErrArg
		if slices.Contains(beds, bed) {
			want = api.OK
		}
		if e := out.Check(with(api.GateAny, 1, bed)); e != want {
			t.Error(bed, e)
		}
	}
}

// scoreErrors returns the errors of all functions that have those of a score, and whether one of them has another result as well.
func scoreErrors(r api.OutRules, score int) (errors []api.Errno, more bool) {
	ways, e := out.Ways(r, score)
	first, f := out.First(r, score)
	n, g := out.Number(r, score)
	forced, h := out.Forced(r, score)
	return []api.Errno{e, f, g, h}, ways != nil || first != nil || n != 0 || forced != nil
}

// mostErrors returns the same of the functions with a greatest score.
func mostErrors(r api.OutRules, most int) (errors []api.Errno, more bool) {
	few, e := out.Fewest(r, most)
	bogeys, f := out.Bogeys(r, most)
	return []api.Errno{e, f}, few != nil || bogeys != nil
}

// P2.1 to P2.7: rules that are not valid come before scores that are not.
func TestErrArg(t *testing.T) {
	for name, r := range wrongRules() {
		for _, score := range []int{0, 1, 40, 1001, 1002, -1, math.MinInt, math.MaxInt} {
			if l, more := scoreErrors(r, score); !slices.Equal(l, slices.Repeat([]api.Errno{api.ErrArg}, 4)) || more {
				t.Error(name, score, l, more)
			}
			if l, more := mostErrors(r, score); !slices.Equal(l, slices.Repeat([]api.Errno{api.ErrArg}, 2)) || more {
				t.Error(name, score, l, more)
			}
		}
	}
}

// P2.2 to P2.7: scores that are too small or too great.
func TestErrRange(t *testing.T) {
	r := with(api.GateAny, 9, all(4)...)
	for _, score := range []int{-1, 1002, 2002, math.MinInt, math.MaxInt} {
		if l, more := mostErrors(r, score); !slices.Equal(l, slices.Repeat([]api.Errno{api.ErrRange}, 2)) || more {
			t.Error(score, l, more)
		}
	}
	for _, score := range []int{0, -1, 1002, 2002, math.MinInt, math.MaxInt} {
		if l, more := scoreErrors(r, score); !slices.Equal(l, slices.Repeat([]api.Errno{api.ErrRange}, 4)) || more {
			t.Error(score, l, more)
		}
	}
	for _, score := range []int{1, 1001} {
		if l, _ := scoreErrors(with(api.GateAny, 1, 101, 102), score); slices.Contains(l, api.ErrRange) {
			t.Error(score, l)
		}
	}
}

// P2.2 to P2.5: ways of all sorts of rules.
func TestWays(t *testing.T) {
	for _, c := range []struct {
		r      api.OutRules
		score  int
		ways   [][]api.Bed
		forced []api.Bed
	}{
		{with(api.GateAny, 1, 101), 1, [][]api.Bed{{101}}, list(101)},
		{with(api.GateAny, 2, 101), 2, [][]api.Bed{{101, 101}}, list(101)},
		{with(api.GateDouble, 2, 101, 201), 2, [][]api.Bed{{201}}, list(201)},
		// The double 1 after a single is bust with 1 left, unless the gate is GateAny.
		{with(api.GateDouble, 3, 101, 201), 3, [][]api.Bed{{101, 201}}, list(101, 201)},
		{with(api.GateMaster, 3, 101, 201), 3, [][]api.Bed{{101, 201}}, list(101, 201)},
		{with(api.GateAny, 3, 101, 201), 3, [][]api.Bed{{101, 201}, {201, 101}, {101, 101, 101}}, list(101)},
		{with(api.GateDouble, 3, 103, 201, 301), 6, [][]api.Bed{{201, 201, 201}}, list(201)},
		{with(api.GateMaster, 2, 103, 201, 301), 6, [][]api.Bed{{103, 301}, {301, 301}}, list(301)},
		{with(api.GateMaster, 2, 103, 301, 403), 12, [][]api.Bed{{403}}, list(403)},
		{with(api.GateMaster, 2, 125, 225), 75, [][]api.Bed{{125, 225}}, list(125, 225)},
		{with(api.GateAny, 2, 125, 225), 75, [][]api.Bed{{125, 225}, {225, 125}}, list(125, 225)},
		{with(api.GateAny, 2, 125, 225), 25, [][]api.Bed{{125}}, list(125)},
	} {
		l, e := out.Ways(c.r, c.score)
		first, f := out.First(c.r, c.score)
		n, g := out.Number(c.r, c.score)
		forced, h := out.Forced(c.r, c.score)
		if !sameWays(l, c.ways) || !slices.Equal(first, c.ways[0]) || n != len(c.ways) || !slices.Equal(forced, c.forced) || e != api.OK || f != api.OK || g != api.OK || h != api.OK {
			t.Error(c.r, c.score, l, first, n, forced, e, f, g, h)
		}
	}
}

// P2.2 to P2.5: the ways out from all scores are those that are found by trying all lists of beds.
func TestWaysByText(t *testing.T) {
	for _, r := range rules() {
		ways := waysByText(r)
		for score := 1; score <= api.MaxStart; score++ {
			if score > 250 && ways[score] == nil && score < api.MaxStart {
				continue
			}
			compareWays(t, r, score, ways[score])
		}
	}
}

// compareWays compares what the functions return of a score with all ways out from it.
func compareWays(t *testing.T, r api.OutRules, score int, ways [][]api.Bed) {
	t.Helper()
	if n, e := out.Number(r, score); n != len(ways) || e != api.OK {
		t.Fatal(r, score, n, e)
	}
	l, e := out.Ways(r, score)
	first, f := out.First(r, score)
	forced, g := out.Forced(r, score)
	if len(ways) == 0 {
		if l != nil || first != nil || forced != nil || e != api.ErrNone || f != api.ErrNone || g != api.ErrNone {
			t.Fatal(r, score, l, first, forced, e, f, g)
		}
		return
	}
	inAll := func(bed api.Bed) bool {
		return !slices.ContainsFunc(ways, func(way []api.Bed) bool { return !slices.Contains(way, bed) })
	}
	want := slices.DeleteFunc(slices.Clone(r.Beds), func(bed api.Bed) bool { return !inAll(bed) })
	if !sameWays(l, ways) || !slices.Equal(first, ways[0]) || !slices.Equal(forced, want) || e != api.OK || f != api.OK || g != api.OK {
		t.Fatal(r, score, l, first, forced, e, f, g)
	}
}

// P2.2: just MaxOutWays ways are returned, and one more is too many; the other functions have no such limit.
func TestManyWays(t *testing.T) {
	for _, c := range []struct {
		r     api.OutRules
		score int
		n     int
		first []api.Bed
	}{
		{with(api.GateDouble, 7, 104, 113, 117, 205, 206, 212, 412, 418), 231, 3000, nil},
		{with(api.GateMaster, 9, 110, 115, 302, 310, 416), 117, 3001, nil},
		{with(api.GateDouble, 9, all(4)...), 100, 0, list(225, 225)},
	} {
		n, e := out.Number(c.r, c.score)
		if e != api.OK || n != c.n && c.n != 0 || c.n == 0 && n <= 3001 {
			t.Error(c.r, c.score, n, e)
		}
		l, e := out.Ways(c.r, c.score)
		if n > 3000 && (l != nil || e != api.ErrLong) || n <= 3000 && (len(l) != n || e != api.OK) {
			t.Error(c.r, c.score, len(l), e)
		}
		first, e := out.First(c.r, c.score)
		if e != api.OK || !isWay(c.r.Out, c.score, first) || n <= 3000 && !slices.Equal(first, l[0]) {
			t.Error(c.r, c.score, first, e)
		}
		if _, e := out.Forced(c.r, c.score); e != api.OK {
			t.Error(c.r, c.score, e)
		}
	}
}

// P2.4: the greatest numbers of ways are exact: with GateAny each list of beds is a way out from one score.
func TestGreatNumbers(t *testing.T) {
	r := with(api.GateAny, api.MaxOutDarts, all(4)...)
	sum := 0
	for score := 1; score <= 80*api.MaxOutDarts; score++ {
		n, e := out.Number(r, score)
		if e != api.OK || n < 0 {
			t.Fatal(score, n, e)
		}
		sum += n
	}
	want, power := 0, 1
	for range api.MaxOutDarts {
		power *= api.MaxOutBeds
		want += power
	}
	if sum != want {
		t.Error(sum, want)
	}
}

// R4: no argument is changed, and no two ways share memory.
func TestMemory(t *testing.T) {
	beds := append(six(), 999)[:6]
	r := with(api.GateDouble, 4, beds...)
	never := make([]bool, 100)
	l, _ := out.Ways(r, 200)
	first, _ := out.First(r, 200)
	forced, _ := out.Forced(r, 110)
	out.Fewest(r, 300)
	out.Bogeys(r, 300)
	out.Closed(r, never)
	out.Legs(api.Count{Start: 100, Out: api.GateDouble}, beds, 3)
	if !slices.Equal(beds[:7], append(six(), 999)) || slices.Contains(never, true) {
		t.Error(beds[:7], never)
	}
	was := waysByText(r)[200]
	for i, way := range l {
		if !slices.Equal(way, was[i]) {
			t.Fatal("changed by another one:", i, way)
		}
		clear(way[:cap(way)])
	}
	clear(first)
	clear(forced)
	if !slices.Equal(beds, six()) {
		t.Error(beds)
	}
}
