package terms

import (
	"math"
	"slices"

	"oche/api"
)

// ValidSpans reports whether each of the spans is valid from low to high.
func ValidSpans(low, high int, spans ...api.Span) bool {
	wrong := func(s api.Span) bool { return s.Low > s.High || !Within(low, high, s.Low, s.High) }
	return !slices.ContainsFunc(spans, wrong)
}

// NoSpan returns a span without any number, to be widened.
func NoSpan() api.Span { return api.Span{Low: math.MaxInt, High: math.MinInt} }

// Widen lets a span contain numbers.
func Widen(s *api.Span, numbers ...int) {
	for _, n := range numbers {
		s.Low, s.High = min(s.Low, n), max(s.High, n)
	}
}
