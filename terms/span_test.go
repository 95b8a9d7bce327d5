package terms_test

import (
	"math"
	"testing"

	"oche/api"
	"oche/terms"
)

// to returns a span.
func to(low, high int) api.Span { return api.Span{Low: low, High: high} }

// DOC.md, Span: a span is valid if Low is at most High, and both are within the bounds.
func TestValidSpans(t *testing.T) {
	for _, c := range []struct {
		low, high int
		spans     []api.Span
		want      bool
	}{
		{1, 3, nil, true}, {1, 3, []api.Span{to(1, 3)}, true}, {1, 3, []api.Span{to(1, 1), to(2, 3), to(3, 3)}, true}, {0, 0, []api.Span{{}}, true}, {-5, -1, []api.Span{to(-5, -1)}, true}, {math.MinInt, math.MaxInt, []api.Span{to(math.MinInt, math.MaxInt)}, true},
		{1, 3, []api.Span{to(3, 2)}, false}, {1, 3, []api.Span{to(0, 3)}, false}, {1, 3, []api.Span{to(1, 4)}, false}, {1, 3, []api.Span{to(4, 5)}, false}, {1, 3, []api.Span{to(1, 2), to(2, 1)}, false}, {1, 3, []api.Span{to(4, 4), to(1, 2)}, false}, {math.MinInt, math.MaxInt, []api.Span{to(math.MaxInt, math.MinInt)}, false}, {math.MinInt, math.MaxInt, []api.Span{terms.NoSpan()}, false},
	} {
		if got := terms.ValidSpans(c.low, c.high, c.spans...); got != c.want {
			t.Error(c.low, c.high, c.spans, got)
		}
	}
}

// A span that is widened has the least and the greatest number of all.
func TestWiden(t *testing.T) {
	for _, c := range []struct {
		span    api.Span
		numbers []int
		want    api.Span
	}{
		{terms.NoSpan(), []int{3}, to(3, 3)}, {terms.NoSpan(), []int{3, 1, 2}, to(1, 3)}, {to(3, 5), []int{4}, to(3, 5)}, {to(3, 5), []int{3, 5}, to(3, 5)}, {to(3, 5), []int{6}, to(3, 6)}, {to(3, 5), []int{2}, to(2, 5)}, {to(3, 5), []int{9, -9}, to(-9, 9)}, {to(3, 5), nil, to(3, 5)}, {terms.NoSpan(), []int{math.MaxInt}, to(math.MaxInt, math.MaxInt)}, {terms.NoSpan(), []int{math.MinInt}, to(math.MinInt, math.MinInt)},
	} {
		got := c.span
		if terms.Widen(&got, c.numbers...); got != c.want {
			t.Error(c.span, c.numbers, got)
		}
	}
}
