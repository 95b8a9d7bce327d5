package throw

import (
	"cmp"
	"iter"
	"slices"

	"oche/api"
	"oche/terms"
)

// chances is an aim, and how many darts at it land in its beds, all together.
type chances struct {
	api.ThrowAim
	den int
}

// all yields the chances of all aims of a law, with the numbers of the aims.
func all(l api.ThrowLaw) iter.Seq2[int, chances] {
	return func(yield func(int, chances) bool) {
		for i, a := range l.Aims {
			if !yield(i, chances{a, l.Den}) {
				return
			}
		}
	}
}

// valued returns the chances of an aim, or the error of a law, an aim and values for its beds.
func valued(l api.ThrowLaw, aim int, values []int) (chances, api.Errno) {
	if e := Check(l); e != api.OK {
		return chances{}, e
	}
	if !terms.Within(0, len(l.Aims)-1, aim) {
		return chances{}, api.ErrNone
	}
	c := chances{l.Aims[aim], l.Den}
	if len(values) != len(c.Beds) {
		return chances{}, api.ErrForm
	}
	if !terms.Within(-api.MaxThrowValue, api.MaxThrowValue, values...) {
		return chances{}, api.ErrArg
	}
	return c, api.OK
}

// beds yields the beds of an aim.
func (c chances) beds() iter.Seq[api.Bed] {
	return func(yield func(api.Bed) bool) {
		for _, b := range c.Beds {
			if !yield(b.Bed) {
				return
			}
		}
	}
}

// placed reports whether what is aimed at is a bed, and whether there are beds, ascending, in which the darts can land.
func (c chances) placed() bool {
	at := terms.Hit{Bed: c.At}
	return at.Valid() && at.Bed != api.Miss && len(c.Beds) > 0 && terms.Ascending(c.beds())
}

// valid reports whether an aim that has not too many beds is valid.
func (c chances) valid() bool {
	wrong := func(b api.ThrowBed) bool { return !terms.ValidSpans(0, c.den, b.Chance) }
	if !c.placed() || slices.ContainsFunc(c.Beds, wrong) {
		return false
	}
	sum := c.sum()
	return sum.Low <= c.den && sum.High >= c.den
}

// sum returns the sums of all Lows and of all Highs.
func (c chances) sum() api.Span {
	var sum api.Span
	for _, b := range c.Beds {
		sum = plus(sum, b.Chance)
	}
	return sum
}

// tight returns the aim with the least spans that have the same truths.
func (c chances) tight() api.ThrowAim {
	tight := c.nothing()
	sum := c.sum()
	for i, b := range c.Beds {
		others := api.Span{Low: sum.Low - b.Chance.Low, High: sum.High - b.Chance.High}
		tight.Beds[i].Chance = api.Span{Low: max(b.Chance.Low, c.den-others.High), High: min(b.Chance.High, c.den-others.Low)}
	}
	return tight
}

// truth returns the truth in which the mean of values is least, or greatest.
func (c chances) truth(values []int, greatest bool) []int {
	truth := make([]int, len(c.Beds))
	order := make([]int, len(c.Beds))
	missing := c.den
	for i, b := range c.Beds {
		truth[i], order[i] = b.Chance.Low, i
		missing -= b.Chance.Low
	}
	slices.SortStableFunc(order, byValue(values, greatest))
	for _, i := range order {
		chance := c.Beds[i].Chance
		more := min(missing, chance.High-chance.Low)
		truth[i] += more
		missing -= more
	}
	return truth
}

// byValue returns how two numbers of values are compared if the least value, or the greatest one, comes first.
func byValue(values []int, greatest bool) func(i, j int) int {
	if greatest {
		return func(i, j int) int { return cmp.Compare(values[j], values[i]) }
	}
	return func(i, j int) int { return cmp.Compare(values[i], values[j]) }
}

// mean returns which means values can have.
func (c chances) mean(values []int) api.Span {
	var mean api.Span
	least, most := c.truth(values, false), c.truth(values, true)
	for i, value := range values {
		mean = plus(mean, api.Span{Low: least[i] * value, High: most[i] * value})
	}
	return mean
}

// scores returns the scores of the beds.
func (c chances) scores() []int {
	var scores []int
	for bed := range c.beds() {
		scores = append(scores, terms.Hit{Bed: bed}.Score())
	}
	return scores
}

// nothing returns the same aim, without any dart in its beds.
func (c chances) nothing() api.ThrowAim {
	a := api.ThrowAim{At: c.At}
	for bed := range c.beds() {
		a.Beds = append(a.Beds, api.ThrowBed{Bed: bed})
	}
	return a
}

// alike reports whether two aims are at the same bed, and have the same beds.
func alike(a, b api.ThrowAim) bool {
	same := func(x, y api.ThrowBed) bool { return x.Bed == y.Bed }
	return a.At == b.At && slices.EqualFunc(a.Beds, b.Beds, same)
}

// add lets more darts land in the beds of an aim.
func add(a api.ThrowAim, more []api.ThrowBed) {
	for i, b := range more {
		a.Beds[i].Chance = plus(a.Beds[i].Chance, b.Chance)
	}
}

// plus returns the sum of two spans.
func plus(a, b api.Span) api.Span { return api.Span{Low: a.Low + b.Low, High: a.High + b.High} }
