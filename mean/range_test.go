package mean_test

import (
	"math"
	"math/rand/v2"
	"testing"

	"oche/api"
	"oche/mean"
)

// P6.6: the points of three darts, from those of the most darts to those of the fewest, in lowest terms.
func TestAverage(t *testing.T) {
	for i, c := range []struct {
		points int
		darts  api.Span
		want   api.MeanRange
	}{
		{101, to(5, 9), bounds(101, 3, 303, 5)}, {40, to(1, 3), bounds(40, 1, 120, 1)}, {501, one(9), bounds(167, 1, 167, 1)}, {0, to(1, 3), bounds(0, 1, 0, 1)}, {0, one(1000000), bounds(0, 1, 0, 1)}, {1, to(1, 1000000), bounds(3, 1000000, 3, 1)}, {1, one(999999), bounds(1, 333333, 1, 333333)}, {1000000, to(1, 1000000), bounds(3, 1, 3000000, 1)}, {1000000, to(999999, 1000000), bounds(3, 1, 1000000, 333333)}, {180, to(8, 12), bounds(45, 1, 135, 2)},
	} {
		// Nothing else of the total matters.
		for _, more := range []api.MeanTotal{{}, {Legs: -1, Won: 9, Visits: math.MinInt, Tried: to(9, 3), Tons: -1, Highs: -1, Tops: -1, Best: math.MaxInt}} {
			more.Points, more.Darts = c.points, c.darts
			if got, e := mean.Average(more); got != c.want || e != api.OK {
				t.Error(i, got, e)
			}
		}
	}
}

// P6.7: how many of the darts at a finish have won, from those of the most darts to those of the fewest, in lowest terms.
func TestRate(t *testing.T) {
	for i, c := range []struct {
		won   int
		tried api.Span
		want  api.MeanRange
	}{
		{1, to(2, 7), bounds(1, 7, 1, 2)}, {1, one(1), bounds(1, 1, 1, 1)}, {6, to(6, 9), bounds(2, 3, 1, 1)}, {6, to(9, 15), bounds(2, 5, 2, 3)}, {0, to(3, 4), bounds(0, 1, 0, 1)}, {1000000, one(1000000), bounds(1, 1, 1, 1)}, {1, to(1, 1000000), bounds(1, 1000000, 1, 1)}, {999999, to(999999, 1000000), bounds(999999, 1000000, 1, 1)},
		// Perhaps nothing was tried.
		{0, to(0, 1), bounds(0, 1, 0, 1)}, {0, to(0, 1000000), bounds(0, 1, 0, 1)},
	} {
		for _, more := range []api.MeanTotal{{}, {Legs: -1, Visits: math.MinInt, Points: -1, Darts: to(9, 3), Tons: -1, Highs: -1, Tops: -1, Best: math.MaxInt}} {
			more.Won, more.Tried = c.won, c.tried
			if got, e := mean.Rate(more); got != c.want || e != api.OK {
				t.Error(i, got, e)
			}
		}
	}
}

// within reports whether a number is from low to high.
func within(low, high, n int) bool { return low <= n && n <= high }

// rangeByText returns a range that is wanted, by the text of the chapter, if the numbers allow it.
func rangeByText(num int, den api.Span) api.MeanRange {
	lowest := func(num, den int) api.MeanFraction {
		for d := num; d > 1; d-- {
			if num%d == 0 && den%d == 0 {
				return fraction(num/d, den/d)
			}
		}
		if num == 0 {
			return fraction(0, 1)
		}
		return fraction(num, den)
	}
	return api.MeanRange{Low: lowest(num, den.High), High: lowest(num, den.Low)}
}

// P6.6 and P6.7: all errors, in their order, for each number that is outside of a limit or only just within, and all small numbers.
func TestAverageAndRateByText(t *testing.T) {
	check := func(n int, s api.Span, valid bool) {
		want, f := api.MeanRange{}, api.ErrArg
		if valid && within(0, 1000000, n) {
			f = api.ErrNone
		}
		if valid && within(0, 1000000, n) && s.Low > 0 {
			f = api.OK
		}
		got, e := mean.Average(api.MeanTotal{Points: n, Darts: s})
		if e != f || e != api.OK && got != want || e == api.OK && n < 1000 && got != rangeByText(3*n, s) {
			t.Error("average", n, s, got, e)
		}
		f = api.ErrArg
		if valid && within(0, s.Low, n) {
			f = api.OK
		}
		if f == api.OK && s.High == 0 {
			f = api.ErrNone
		}
		got, e = mean.Rate(api.MeanTotal{Won: n, Tried: s})
		switch {
		case e != f || e != api.OK && got != want:
			t.Error("rate", n, s, got, e)
		case e == api.OK && s.Low == 0:
			if got != bounds(0, 1, 0, 1) {
				t.Error("rate", n, s, got)
			}
		case e == api.OK && n < 1000:
			if got != rangeByText(n, s) {
				t.Error("rate", n, s, got)
			}
		}
	}
	for _, n := range numbers() {
		for _, low := range numbers() {
			for _, high := range numbers() {
				check(n, to(low, high), low <= high && within(0, 1000000, low) && within(0, 1000000, high))
			}
		}
	}
	for n := range 13 {
		for low := range 13 {
			for high := range 13 {
				check(n, to(low, high), low <= high)
			}
		}
	}
}

// P6.9: whether a range surely, and possibly, is above another one.
func TestBetter(t *testing.T) {
	for i, c := range []struct {
		a, b             api.MeanRange
		surely, possibly bool
	}{
		{bounds(20, 1, 30, 1), bounds(10, 1, 19, 1), true, true}, {bounds(10, 1, 19, 1), bounds(20, 1, 30, 1), false, false}, {bounds(20, 1, 30, 1), bounds(25, 1, 26, 1), false, true}, {bounds(25, 1, 26, 1), bounds(20, 1, 30, 1), false, true}, {bounds(20, 1, 20, 1), bounds(20, 1, 30, 1), false, false}, {bounds(20, 1, 30, 1), bounds(20, 1, 20, 1), false, true},
		{bounds(20, 1, 30, 1), bounds(10, 1, 20, 1), false, true}, {bounds(10, 1, 20, 1), bounds(20, 1, 30, 1), false, false}, {bounds(7, 2, 7, 2), bounds(7, 2, 7, 2), false, false}, {bounds(7, 3, 7, 2), bounds(7, 3, 7, 2), false, true},
		// Fractions need not be in lowest terms, and are compared exactly.
		{bounds(2, 6, 3, 9), bounds(1, 3, 4, 12), false, false}, {bounds(0, 7, 0, 9), bounds(0, 1, 0, 1000000), false, false}, {bounds(1, 3, 1, 3), bounds(333333, 1000000, 333333, 1000000), true, true}, {bounds(333333, 1000000, 333333, 1000000), bounds(1, 3, 1, 3), false, false}, {bounds(2999999, 999999, 2999999, 999999), bounds(3000000, 1000000, 3000000, 1000000), true, true}, {bounds(3000000, 1, 3000000, 1), bounds(0, 1000000, 2999999, 1), true, true}, {bounds(3000000, 1, 3000000, 1), bounds(0, 1, 3000000, 1), false, true},
	} {
		if surely, possibly, e := mean.Better(c.a, c.b); surely != c.surely || possibly != c.possibly || e != api.OK {
			t.Error(i, surely, possibly, e)
		}
	}
}

// P6.9: each number of each range that is outside of its limits, or only just within.
func TestWrongRanges(t *testing.T) {
	check := func(a, b api.MeanRange, want api.Errno) {
		surely, possibly, e := mean.Better(a, b)
		if e != want || e != api.OK && (surely || possibly) {
			t.Error(a, b, surely, possibly, e)
		}
	}
	other := bounds(0, 1, 0, 1)
	for _, n := range numbers() {
		want := map[bool]api.Errno{true: api.OK, false: api.ErrArg}
		num, den := want[within(0, 3000000, n)], want[within(1, 1000000, n)]
		for _, c := range []struct {
			r api.MeanRange
			e api.Errno
		}{{bounds(0, 1, n, 1), num}, {bounds(n, 1, max(n, 3000000), 1), num}, {bounds(0, 1, 3, n), den}, {bounds(0, n, 3, 1), den}} {
			check(c.r, other, c.e)
			check(other, c.r, c.e)
			check(c.r, bounds(1, 1, 0, 1), api.ErrArg)
		}
	}
	// Low is at most High, by whatever terms.
	for _, r := range []api.MeanRange{bounds(2, 1, 1, 1), bounds(1, 2, 1, 3), bounds(1, 3, 333333, 1000000), bounds(3000000, 999999, 3000000, 1000000)} {
		check(r, other, api.ErrArg)
		check(other, r, api.ErrArg)
		check(r, r, api.ErrArg)
	}
	check(bounds(2, 6, 1, 3), bounds(1, 3, 2, 6), api.OK)
}

// P6.9: each two numbers of small ranges, one by one.
func TestBetterByText(t *testing.T) {
	r := rand.New(rand.NewPCG(3, 6))
	kinds := map[[2]bool]int{}
	for range 20000 {
		// All numbers have the same denominator here, but are written with others.
		lowA, lowB := r.IntN(12), r.IntN(12)
		highA, highB := lowA+r.IntN(5), lowB+r.IntN(5)
		wantSurely, wantPossibly := true, false
		for a := lowA; a <= highA; a++ {
			for b := lowB; b <= highB; b++ {
				wantSurely = wantSurely && a > b
				wantPossibly = wantPossibly || a > b
			}
		}
		times := func(n int) api.MeanFraction {
			by := 1 + r.IntN(9)
			return fraction(n*by, 6*by)
		}
		surely, possibly, e := mean.Better(api.MeanRange{Low: times(lowA), High: times(highA)}, api.MeanRange{Low: times(lowB), High: times(highB)})
		if surely != wantSurely || possibly != wantPossibly || e != api.OK {
			t.Fatal(lowA, highA, lowB, highB, surely, possibly, e)
		}
		kinds[[2]bool{surely, possibly}]++
	}
	if kinds[[2]bool{true, true}] < 1000 || kinds[[2]bool{false, true}] < 1000 || kinds[[2]bool{false, false}] < 1000 {
		t.Error("too few of a kind:", kinds)
	}
}
