package leg_test

import (
	"math/rand/v2"
	"slices"
	"testing"

	"oche/api"
	"oche/leg"
)

// P3.8: Left is Start less the Scores of the visits, as Visit returns them, and Darts is the number of all beds.
func TestWhatIsCounted(t *testing.T) {
	r := rand.New(rand.NewPCG(7, 3))
	for range 3000 {
		rules := randomRules(r)
		l, _ := randomLeg(r, rules, 30)
		var left, darts []int
		var in, ended []bool
		for _, c := range rules.Counts {
			left, darts, in, ended = append(left, c.Start), append(darts, 0), append(in, c.In == free), append(ended, false)
		}
		for _, v := range l {
			p := v.Player
			x, e := leg.Visit(rules.Counts[p], in[p], left[p], v.Beds)
			if e != api.OK || x.Left != left[p]-x.Score || x.Darts != len(v.Beds) || x.Won != (x.Left == 0) {
				t.Fatal(rules, v, left[p], x, e)
			}
			left[p], in[p], ended[p] = x.Left, x.In, x.Won
			darts[p] += len(v.Beds)
		}
		s, _, e := leg.Play(rules, l)
		if !slices.Equal(s.Left, left) || !slices.Equal(s.Darts, darts) || !slices.Equal(s.In, in) || e != api.OK {
			t.Fatal(rules, l, s, e)
		}
		for p, rest := range s.Left {
			if rest < 0 || ended[p] != (rest == 0) {
				t.Fatal(rules, l, s)
			}
		}
	}
}

// P3.9: Play accepts what is left without the visits that Judge names, with the same leg.
func TestEachWrongVisit(t *testing.T) {
	r := rand.New(rand.NewPCG(8, 3))
	for range 3000 {
		rules := randomRules(r)
		l, _ := randomLeg(r, rules, 30)
		if r.IntN(4) > 0 {
			l = spoiled(r, l)
		}
		s, faults, _ := leg.Judge(rules, l)
		named := map[int]bool{}
		for _, f := range faults {
			named[f.Visit] = true
		}
		var rest []api.LegVisit
		for i, v := range l {
			if !named[i] {
				rest = append(rest, v)
			}
		}
		if got, at, e := leg.Play(rules, rest); !sameLeg(got, s) || at != 0 || e != api.OK {
			t.Fatal(rules, l, faults, got, at, e, s)
		}
		got, at, e := leg.Play(rules, l)
		if (e == api.OK) != (len(faults) == 0) || len(faults) > 0 && (at != faults[0].Visit || e != faults[0].Error || !noLeg(got)) {
			t.Fatal(rules, l, faults, got, at, e)
		}
	}
}

// P3.10: with Equal all players have had as many visits when a leg is over, and so if it is over by its rounds.
func TestAsManyDarts(t *testing.T) {
	r := rand.New(rand.NewPCG(9, 3))
	for range 3000 {
		rules := randomRules(r)
		l, _ := randomLeg(r, rules, 60)
		s, _, e := leg.Play(rules, l)
		won := slices.Contains(s.Left, 0)
		if e != api.OK || !s.Over || won && !rules.Equal {
			continue
		}
		visits := make([]int, len(rules.Counts))
		for _, v := range l {
			visits[v.Player]++
		}
		if slices.Min(visits) != s.Round || slices.Max(visits) != s.Round || !won && s.Round != rules.Rounds {
			t.Fatal(rules, l, s, visits)
		}
	}
}

// turnedRound returns rules, visits and a leg in which the player number 0 has another number.
func turnedRound(rules api.LegRules, l []api.LegVisit, s api.LegState, by int) (api.LegRules, []api.LegVisit, api.LegState) {
	n := len(rules.Counts)
	number := func(player int) int {
		if player < 0 || player >= n {
			return player
		}
		return (player + by) % n
	}
	other, after := rules, s
	other.Counts, other.First = slices.Clone(rules.Counts), number(rules.First)
	after.Left, after.Darts, after.In, after.Winners = slices.Clone(s.Left), slices.Clone(s.Darts), slices.Clone(s.In), nil
	after.Next = number(s.Next)
	for p := range n {
		q := number(p)
		other.Counts[q], after.Left[q], after.Darts[q], after.In[q] = rules.Counts[p], s.Left[p], s.Darts[p], s.In[p]
	}
	for _, p := range s.Winners {
		after.Winners = append(after.Winners, number(p))
	}
	slices.Sort(after.Winners)
	var visits []api.LegVisit
	for _, v := range l {
		visits = append(visits, api.LegVisit{Player: number(v.Player), Beds: v.Beds})
	}
	return other, visits, after
}

// P3.11: with other numbers in the same order, all happens as before.
func TestNumbers(t *testing.T) {
	r := rand.New(rand.NewPCG(10, 3))
	for range 3000 {
		rules := randomRules(r)
		l, _ := randomLeg(r, rules, 30)
		l = spoiled(r, l)
		s, faults, _ := leg.Judge(rules, l)
		other, visits, want := turnedRound(rules, l, s, r.IntN(len(rules.Counts)))
		if got, named, e := leg.Judge(other, visits); !sameLeg(got, want) || !slices.Equal(named, faults) || e != api.OK {
			t.Fatal(rules, l, s, faults, got, named, e)
		}
	}
}

// The chapter's examples 1 to 4 (P3.2 to P3.4).
func TestExamplesOfVisits(t *testing.T) {
	c := count(101, free, double)
	for i, x := range []struct {
		c    api.Count
		in   bool
		beds []api.Bed
		want api.LegThrow
		e    api.Errno
	}{
		{c, true, list(320, 220), api.LegThrow{Left: 101, Darts: 2, In: true, Bust: true}, api.OK}, {c, true, list(320, 220, 101), api.LegThrow{}, api.ErrMore},
		{c, true, list(320, 101, 220), api.LegThrow{Score: 101, Darts: 3, In: true, Won: true}, api.OK}, {c, true, list(320, 101), api.LegThrow{}, api.ErrShort},
		{count(101, double, double), false, list(320, 210, 120), api.LegThrow{Left: 61, Score: 40, Darts: 3, In: true}, api.OK},
	} {
		if got, e := leg.Visit(x.c, x.in, 101, x.beds); got != x.want || e != x.e {
			t.Error(i, got, e)
		}
	}
	win, some := list(320, 101, 220), list(320, 101, api.Miss)
	for i, x := range []struct {
		r       api.LegRules
		l       []api.LegVisit
		over    bool
		winners []int
		round   int
	}{
		{two(), []api.LegVisit{by(0, some...)}, false, nil, 0}, {two(), []api.LegVisit{by(0, some...), by(1, win...)}, true, []int{1}, 1},
		{two(), []api.LegVisit{by(0, win...)}, true, []int{0}, 0}, {equal(two()), []api.LegVisit{by(0, win...)}, false, nil, 0},
		{equal(two()), []api.LegVisit{by(0, win...), by(1, win...)}, true, []int{0, 1}, 1}, {equal(two()), []api.LegVisit{by(0, win...), by(1, some...)}, true, []int{0}, 1},
	} {
		if s, _, e := leg.Play(x.r, x.l); s.Over != x.over || !slices.Equal(s.Winners, x.winners) || s.Round != x.round || e != api.OK {
			t.Error(i, s, e)
		}
	}
}

// The chapter's examples 5 to 7 (P3.5 to P3.7).
func TestExamples(t *testing.T) {
	s, faults, e := leg.Judge(two(), []api.LegVisit{by(0, 101, 101, 101), by(0, 101, 101, 101), by(1, 120, 120), by(1, 120, 120, 120)})
	if !slices.Equal(faults, []api.LegFault{{Visit: 1, Dart: -1, Error: api.ErrTurn}, {Visit: 2, Dart: -1, Error: api.ErrShort}}) || !slices.Equal(s.Left, []int{98, 41}) || e != api.OK {
		t.Error(s, faults, e)
	}
	if who, e := leg.Off(3, rounds([]api.LegOff{off(api.Bull, 0), off(101, 300), off(api.Bull, 0)}, []api.LegOff{off(103, 250), off(104, 240)})); who != 2 || e != api.OK {
		t.Error(who, e)
	}
	m, even := api.LegMatch{Legs: 2, Sets: 2, Clear: 2, Extra: 2}, []int{0, 0, 1, 1}
	for i, c := range []struct {
		more []int
		want api.LegScore
	}{
		{nil, api.LegScore{Sets: [2]int{1, 1}, First: 0, Winner: -1}}, {[]int{0, 1, 0}, api.LegScore{Sets: [2]int{1, 1}, Legs: [2]int{2, 1}, First: 1, Winner: -1}},
		{[]int{0, 1, 0, 0}, api.LegScore{Sets: [2]int{2, 1}, Legs: [2]int{3, 1}, First: -1, Winner: 0}}, {[]int{0, 1, 0, 1, 0, 1, 0}, api.LegScore{Sets: [2]int{2, 1}, Legs: [2]int{4, 3}, First: -1, Winner: 0}},
	} {
		if x, _, e := leg.Match(m, append(slices.Clone(even), c.more...)); x != c.want || e != api.OK {
			t.Error(i, x, e)
		}
	}
	// The last dart of the example of DOC.md, across the chapters.
	if x, e := leg.Visit(count(501, free, double), true, 40, list(120, 210)); x != (api.LegThrow{Score: 40, Darts: 2, In: true, Won: true}) || e != api.OK {
		t.Error(x, e)
	}
}

// P1: whatever the arguments are, no function panics, and with an error the other results are zero values.
func TestAnyArguments(t *testing.T) {
	r := rand.New(rand.NewPCG(11, 3))
	pick := func() int { return numbers()[r.IntN(len(numbers()))] }
	someBeds := func() []api.Bed {
		var l []api.Bed
		for range r.IntN(5) {
			l = append(l, api.Bed(pick()))
		}
		return l
	}
	for range 20000 {
		c := count(pick(), api.Gate(r.IntN(5)-1), api.Gate(r.IntN(5)-1))
		if x, e := leg.Visit(c, r.IntN(2) == 0, pick(), someBeds()); e != api.OK && x != (api.LegThrow{}) {
			t.Fatal(c, x, e)
		}
		rules := api.LegRules{Counts: slices.Repeat([]api.Count{count(pick(), free, double)}, r.IntN(11)), First: pick(), Rounds: pick(), Equal: r.IntN(2) == 0}
		if r.IntN(2) == 0 {
			rules = randomRules(r)
		}
		l := []api.LegVisit{by(pick(), someBeds()...), by(r.IntN(3), someBeds()...)}
		if s, at, e := leg.Play(rules, l); e != api.OK && !noLeg(s) || e == api.OK && at != 0 {
			t.Fatal(rules, l, s, at, e)
		}
		if s, faults, e := leg.Judge(rules, l); e != api.OK && (!noLeg(s) || faults != nil) {
			t.Fatal(rules, l, s, faults, e)
		}
		darts := []api.LegOff{off(api.Bed(pick()), pick()), off(api.Bed(pick()), pick())}
		if who, e := leg.Off(pick(), rounds(darts[:r.IntN(3)], darts)); e != api.OK && who != 0 {
			t.Fatal(darts, who, e)
		}
		m := api.LegMatch{Legs: pick(), Sets: pick(), Clear: 1 + r.IntN(2), Extra: pick(), First: r.IntN(2)}
		if x, at, e := leg.Match(m, []int{r.IntN(2), pick(), pick()}); e != api.OK && x != (api.LegScore{}) || e == api.OK && at != 0 {
			t.Fatal(m, x, at, e)
		}
	}
}
