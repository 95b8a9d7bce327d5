package terms_test

import (
	"maps"
	"math"
	"slices"
	"testing"

	"oche/api"
	"oche/terms"
)

// R5, R7: both ends are within; numbers may be any.
func TestWithin(t *testing.T) {
	for _, c := range []struct {
		low, high int
		numbers   []int
		want      bool
	}{
		{1, 3, nil, true}, {1, 3, []int{1, 2, 3}, true}, {2, 2, []int{2}, true}, {-3, -1, []int{-3, -1}, true}, {math.MinInt, math.MaxInt, []int{math.MinInt, 0, math.MaxInt}, true},
		{1, 3, []int{0}, false}, {1, 3, []int{4}, false}, {1, 3, []int{2, 4, 2}, false}, {1, 3, []int{2, 0}, false}, {3, 1, []int{2}, false}, {0, 5, []int{math.MinInt}, false}, {0, 5, []int{math.MaxInt}, false},
	} {
		if got := terms.Within(c.low, c.high, c.numbers...); got != c.want {
			t.Error(c.low, c.high, c.numbers, got)
		}
	}
}

// R8: there are three gates.
func TestValidGates(t *testing.T) {
	for _, c := range []struct {
		gates []api.Gate
		want  bool
	}{
		{nil, true}, {[]api.Gate{api.GateAny, api.GateDouble, api.GateMaster}, true},
		{[]api.Gate{-1}, false}, {[]api.Gate{3}, false}, {[]api.Gate{api.GateAny, math.MaxInt}, false}, {[]api.Gate{math.MinInt, api.GateAny}, false},
	} {
		if got := terms.ValidGates(c.gates...); got != c.want {
			t.Error(c.gates, got)
		}
	}
}

// DOC.md: a Count is valid if Start is from 2 to 1001 and both gates are one of the three.
func TestValidCount(t *testing.T) {
	for _, c := range []struct {
		count api.Count
		want  bool
	}{
		{api.Count{Start: 2}, true}, {api.Count{Start: 1001, In: api.GateMaster, Out: api.GateDouble}, true}, {api.Count{Start: 501, In: api.GateDouble, Out: api.GateMaster}, true},
		{api.Count{}, false}, {api.Count{Start: 1}, false}, {api.Count{Start: 1002}, false}, {api.Count{Start: -2}, false}, {api.Count{Start: math.MaxInt}, false},
		{api.Count{Start: 2, In: 3}, false}, {api.Count{Start: 2, In: -1}, false}, {api.Count{Start: 2, Out: 3}, false}, {api.Count{Start: 2, Out: -1}, false},
	} {
		if got := terms.ValidCount(c.count); got != c.want {
			t.Error(c.count, got)
		}
	}
}

// A list of beds has no miss, is strictly ascending, and is neither empty nor too long.
func TestValidBeds(t *testing.T) {
	for _, c := range []struct {
		beds []api.Bed
		most int
		want bool
	}{
		{[]api.Bed{101}, 1, true}, {[]api.Bed{101, 125, 225, 420}, 4, true}, {[]api.Bed{101, 125, 225, 420}, 82, true}, {[]api.Bed{320}, 82, true},
		{nil, 82, false}, {[]api.Bed{}, 82, false}, {[]api.Bed{101, 102}, 1, false}, {[]api.Bed{0}, 82, false}, {[]api.Bed{0, 101}, 82, false}, {[]api.Bed{101, 101}, 82, false}, {[]api.Bed{101, 201, 120}, 82, false}, {[]api.Bed{121}, 82, false}, {[]api.Bed{101, 325}, 82, false}, {[]api.Bed{-101}, 82, false}, {[]api.Bed{101, math.MaxInt}, 82, false}, {[]api.Bed{math.MinInt}, 82, false},
	} {
		if got := terms.ValidBeds(c.beds, c.most); got != c.want {
			t.Error(c.beds, c.most, got)
		}
	}
}

// Beds or misses ascend if each is greater than the one before; there can be none, and all of them.
func TestAscending(t *testing.T) {
	all := slices.Sorted(maps.Keys(beds()))
	for _, c := range []struct {
		beds []api.Bed
		want bool
	}{
		{nil, true}, {[]api.Bed{0}, true}, {[]api.Bed{0, 101}, true}, {[]api.Bed{225}, true}, {all, true},
		{[]api.Bed{0, 0}, false}, {[]api.Bed{101, 0}, false}, {[]api.Bed{101, 101}, false}, {[]api.Bed{0, 101, 201, 120}, false}, {[]api.Bed{-1}, false}, {[]api.Bed{-1, 0}, false}, {[]api.Bed{0, 121}, false}, {[]api.Bed{0, 325, 401}, false}, {[]api.Bed{math.MinInt}, false}, {[]api.Bed{0, math.MaxInt}, false}, {append(all[:83:83], 501), false},
	} {
		if got := terms.Ascending(slices.Values(c.beds)); got != c.want {
			t.Error(c.beds, got)
		}
	}
}

// R3: an empty list has no two elements that are the same.
func TestDistinct(t *testing.T) {
	for _, c := range []struct {
		l    []int
		want bool
	}{
		{nil, true}, {[]int{}, true}, {[]int{7}, true}, {[]int{3, 1, 2}, true}, {[]int{math.MinInt, 0, math.MaxInt}, true},
		{[]int{7, 7}, false}, {[]int{0, 0}, false}, {[]int{1, 2, 3, 1}, false}, {[]int{1, 2, 3, 3}, false}, {[]int{5, 5, 5}, false},
	} {
		if got := terms.Distinct(c.l); got != c.want {
			t.Error(c.l, got)
		}
	}
	if terms.Distinct([]api.Bed{api.Eye, api.Miss, api.Eye}) || !terms.Distinct([]api.Bed{api.Eye, api.Miss, api.Bull}) {
		t.Error("beds")
	}
}
