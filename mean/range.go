package mean

import (
	"cmp"
	"slices"

	"oche/api"
	"oche/terms"
)

// lowest returns a fraction in lowest terms, of a number from 0 on and one above 0.
func lowest(num, den int) api.MeanFraction {
	divisor, rest := den, num
	for rest != 0 {
		divisor, rest = rest, divisor%rest
	}
	return api.MeanFraction{Num: num / divisor, Den: den / divisor}
}

// compare returns a number below 0, 0 or above 0, as a valid fraction is less than, equal to or greater than another one.
func compare(a, b api.MeanFraction) int { return cmp.Compare(a.Num*b.Den, b.Num*a.Den) }

// validRanges reports whether all ranges are of fractions within the limits, and have the lower one first.
func validRanges(ranges ...api.MeanRange) bool {
	wrong := func(r api.MeanRange) bool {
		return !terms.Within(0, api.Darts*api.MaxMeanPoints, r.Low.Num, r.High.Num) ||
			!terms.Within(1, api.MaxMeanPoints, r.Low.Den, r.High.Den) ||
			compare(r.Low, r.High) > 0
	}
	return !slices.ContainsFunc(ranges, wrong)
}
