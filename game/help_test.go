package game_test

import (
	"cmp"
	"math"
	"math/rand/v2"
	"slices"

	"oche/api"
	"oche/game"
)

// round returns rules.
func round(players, last int, bull, jump bool) api.GameRules {
	return api.GameRules{Kind: api.GameRound, Players: players, Last: last, Bull: bull, Jump: jump}
}

// cricket returns rules.
func cricket(players, rounds int, cut bool) api.GameRules {
	return api.GameRules{Kind: api.GameCricket, Players: players, Rounds: rounds, Cut: cut}
}

// shanghai returns rules.
func shanghai(players, rounds int) api.GameRules {
	return api.GameRules{Kind: api.GameShanghai, Players: players, Rounds: rounds}
}

// killer returns rules.
func killer(lives int, own bool, numbers ...int) api.GameRules {
	return api.GameRules{Kind: api.GameKiller, Players: len(numbers), Numbers: numbers, Lives: lives, Own: own}
}

// list returns its arguments.
func list(beds ...api.Bed) []api.Bed { return beds }

// join returns visits, one after the other.
func join(visits ...[]api.Bed) []api.Bed { return slices.Concat(visits...) }

// misses returns so many misses.
func misses(n int) []api.Bed { return make([]api.Bed, n) }

// rest returns a visit of a player.
func rest() []api.Bed { return misses(3) }

// points returns players who have points alone.
func points(numbers ...int) []api.GamePlayer {
	var l []api.GamePlayer
	for _, n := range numbers {
		l = append(l, api.GamePlayer{Points: n})
	}
	return l
}

// marked returns a player of cricket.
func marked(points int, marks ...int) api.GamePlayer {
	p := api.GamePlayer{Points: points}
	copy(p.Marks[:], marks)
	return p
}

// closed returns a player of cricket who has closed all numbers.
func closed(points int) api.GamePlayer { return marked(points, 3, 3, 3, 3, 3, 3, 3) }

// with returns a player of killer who is a killer, and without one who is none.
func with(lives int) api.GamePlayer { return api.GamePlayer{Points: lives, Killer: true} }

func without(lives int) api.GamePlayer { return api.GamePlayer{Points: lives} }

// who returns its arguments.
func who(players ...api.GamePlayer) []api.GamePlayer { return players }

// state returns a state.
func state(round, player, darts int, players []api.GamePlayer, winners ...int) api.GameState {
	return api.GameState{Round: round, Player: player, Darts: darts, Players: players, Winners: winners}
}

// sameState compares states.
func sameState(a, b api.GameState) bool {
	return a.Round == b.Round && a.Player == b.Player && a.Darts == b.Darts && slices.Equal(a.Players, b.Players) && slices.Equal(a.Winners, b.Winners)
}

// noState reports whether a state is the zero value.
func noState(s api.GameState) bool { return sameState(s, api.GameState{}) }

// sameLists compares lists of lists.
func sameLists[T comparable](a, b [][]T) bool { return slices.EqualFunc(a, b, slices.Equal[[]T]) }

// allBeds returns all beds but the miss, ascending.
func allBeds() []api.Bed {
	beds := list(api.Bull, api.Eye)
	for factor := range 4 {
		for number := range 20 {
			beds = append(beds, api.Bed(100*(factor+1)+number+1))
		}
	}
	slices.Sort(beds)
	return beds
}

// noBeds returns values that are neither a bed nor a miss.
func noBeds() []api.Bed {
	return list(math.MinInt, -225, -101, -1, 1, 20, 25, 100, 121, 124, 126, 199, 200, 221, 224, 226, 300, 321, 325, 400, 421, 425, 500, 501, 525, 1001, math.MaxInt)
}

// some returns one of its arguments.
func some[T any](r *rand.Rand, l ...T) T { return l[r.IntN(len(l))] }

// randomRules returns valid rules of a kind.
func randomRules(r *rand.Rand, kind api.GameKind) api.GameRules {
	players := 2 + r.IntN(3)
	if r.IntN(10) == 0 {
		players = 8
	}
	switch kind {
	case api.GameRound:
		return round(players-r.IntN(2), 1+r.IntN(1+r.IntN(20)), r.IntN(2) == 0, r.IntN(2) == 0)
	case api.GameCricket:
		return cricket(players, 1+r.IntN(20), r.IntN(2) == 0)
	case api.GameShanghai:
		return shanghai(players, 1+r.IntN(8))
	default:
		numbers := r.Perm(20)[:players]
		for i := range numbers {
			numbers[i]++
		}
		return killer(1+r.IntN(4), r.IntN(2) == 0, numbers...)
	}
}

// kinds returns all kinds of games.
func kinds() []api.GameKind {
	return []api.GameKind{api.GameRound, api.GameCricket, api.GameShanghai, api.GameKiller}
}

// good returns a bed that often does something as one of the next darts, of which there are so many.
func good(r *rand.Rand, rules api.GameRules, s api.GameState, darts int) api.Bed {
	factor := 100 * (1 + r.IntN(4))
	switch rules.Kind {
	case api.GameRound:
		if p := s.Players[s.Player].Points + r.IntN(darts); p < rules.Last {
			return api.Bed(factor + p + 1)
		}
		return some(r, api.Bull, api.Eye)
	case api.GameCricket:
		return some(r, api.Bed(factor+15+r.IntN(6)), api.Bed(factor+15+r.IntN(6)), api.Bull, api.Eye)
	case api.GameShanghai:
		return api.Bed(factor + s.Round + 1)
	default:
		return api.Bed(200 + some(r, rules.Numbers...))
	}
}

// randomDarts returns at most so many darts, up to the end of a game, and the state after them.
func randomDarts(r *rand.Rand, rules api.GameRules, most int) ([]api.Bed, api.GameState) {
	var darts []api.Bed
	t := newText(rules)
	for len(darts) < most && len(t.winners) == 0 {
		bed := good(r, rules, t.state(), 1)
		if r.IntN(6) == 0 {
			bed = some(r, append(allBeds(), misses(20)...)...)
		}
		darts = append(darts, bed)
		t.dart(bed)
	}
	return darts, t.state()
}

// isBed reports whether a value is a bed or a miss, by the terms of DOC.md.
func isBed(bed api.Bed) bool { return bed == 0 || slices.Contains(allBeds(), bed) }

// stateByText returns what Play should return for valid rules, by the text of the chapter, from all darts at once.
func stateByText(r api.GameRules, darts []api.Bed) (api.GameState, int, api.Errno) {
	if len(darts) > 600 {
		return api.GameState{}, 0, api.ErrLong
	}
	t := newText(r)
	for i, bed := range darts {
		if !isBed(bed) {
			return api.GameState{}, i, api.ErrArg
		}
		if len(t.winners) > 0 {
			return api.GameState{}, i, api.ErrState
		}
		t.dart(bed)
	}
	return t.state(), 0, api.OK
}

// text is a game by the text of the chapter: the visits that were thrown, with their players and rounds, and what players have.
type text struct {
	r       api.GameRules
	visits  []visit
	players []api.GamePlayer
	winners []int
}

// visit is a visit, which can still go on.
type visit struct {
	round, player int
	darts         []api.Bed
}

func newText(r api.GameRules, darts ...api.Bed) *text {
	t := &text{r: r, visits: []visit{{}}}
	for range r.Players {
		t.players = append(t.players, api.GamePlayer{Points: r.Lives})
	}
	for _, bed := range darts {
		t.dart(bed)
	}
	return t
}

// copied returns a game that can go on in another way.
func (t *text) copied() *text {
	v := *t.now()
	v.darts = slices.Clone(v.darts)
	return &text{t.r, append(slices.Clone(t.visits[:len(t.visits)-1]), v), slices.Clone(t.players), slices.Clone(t.winners)}
}

// now returns the visit that goes on.
func (t *text) now() *visit { return &t.visits[len(t.visits)-1] }

func (t *text) state() api.GameState {
	v := t.now()
	return api.GameState{Round: v.round, Player: v.player, Darts: len(v.darts), Players: slices.Clone(t.players), Winners: slices.Clone(t.winners)}
}

// isOut reports whether a player is out.
func (t *text) isOut(player int) bool {
	return t.r.Kind == api.GameKiller && t.players[player].Points == 0
}

// dart carries out a dart, and begins the next visit.
func (t *text) dart(bed api.Bed) {
	v := t.now()
	v.darts = append(v.darts, bed)
	f, n := int(bed)/100, int(bed)%100
	switch t.r.Kind {
	case api.GameRound:
		t.roundDart(v.player, f, n)
	case api.GameCricket:
		t.cricketDart(v.player, f, n)
	case api.GameShanghai:
		t.shanghaiDart(v, f, n)
	default:
		t.killerDart(v.player, f, n)
	}
	if len(t.winners) > 0 || len(v.darts) < 3 && !t.isOut(v.player) {
		return
	}
	for player := v.player + 1; player < t.r.Players; player++ {
		if !t.isOut(player) {
			t.visits = append(t.visits, visit{v.round, player, nil})
			return
		}
	}
	for player := range t.r.Players {
		if !t.isOut(player) {
			t.endOfRound(v.round+1, player)
			return
		}
	}
}

// endOfRound begins the next round, or ends the game by its rounds.
func (t *text) endOfRound(rounds, player int) {
	limited := t.r.Kind == api.GameCricket || t.r.Kind == api.GameShanghai
	if !limited || rounds < t.r.Rounds {
		t.visits = append(t.visits, visit{rounds, player, nil})
		return
	}
	t.winners = t.groupsByText()[0]
}

func (t *text) roundDart(player, f, n int) {
	var targets []int
	for number := 1; number <= t.r.Last; number++ {
		targets = append(targets, number)
	}
	if t.r.Bull {
		targets = append(targets, 25)
	}
	p := t.players[player].Points
	if targets[p] != n {
		return
	}
	if t.r.Jump {
		p += f
	} else {
		p++
	}
	if n != 25 && p > t.r.Last {
		p = t.r.Last
	}
	if p > len(targets) {
		p = len(targets)
	}
	t.players[player].Points = p
	if p == len(targets) {
		t.winners = []int{player}
	}
}

func (t *text) cricketDart(player, f, n int) {
	number := slices.Index([]int{15, 16, 17, 18, 19, 20, 25}, n)
	for mark := 0; number >= 0 && mark < f; mark++ {
		if t.players[player].Marks[number] < 3 {
			t.players[player].Marks[number]++
			continue
		}
		open := false
		for other := range t.players {
			if other != player && t.players[other].Marks[number] < 3 {
				open = true
				if t.r.Cut {
					t.players[other].Points += n
				}
			}
		}
		if open && !t.r.Cut {
			t.players[player].Points += n
		}
	}
	for other := range t.players {
		more := t.players[other].Points > t.players[player].Points
		fewer := t.players[other].Points < t.players[player].Points
		if !t.r.Cut && more || t.r.Cut && fewer {
			return
		}
	}
	if t.players[player].Marks == [7]int{3, 3, 3, 3, 3, 3, 3} {
		t.winners = []int{player}
	}
}

func (t *text) shanghaiDart(v *visit, f, n int) {
	number := v.round + 1
	if n == number {
		t.players[v.player].Points += f * n
	}
	hit := func(f int) bool { return slices.Contains(v.darts, api.Bed(100*f+number)) }
	if hit(1) && hit(2) && hit(3) {
		t.winners = []int{v.player}
	}
}

func (t *text) killerDart(player, f, n int) {
	if f != 2 {
		return
	}
	p := &t.players[player]
	if n == t.r.Numbers[player] {
		if !p.Killer {
			p.Killer = true
		} else if t.r.Own {
			p.Points--
		}
	} else if p.Killer {
		for other, number := range t.r.Numbers {
			if number == n && !t.isOut(other) {
				t.players[other].Points--
			}
		}
	}
	var in []int
	for other := range t.players {
		if !t.isOut(other) {
			in = append(in, other)
		}
	}
	if len(in) == 1 {
		t.winners = in
	}
}

// groupsByText returns the groups of players by what they have.
func (t *text) groupsByText() [][]int {
	marks := func(p api.GamePlayer) (sum int) {
		for _, n := range p.Marks {
			sum += n
		}
		return sum
	}
	order := func(a, b int) int {
		x, y := t.players[a], t.players[b]
		if t.r.Cut {
			return cmp.Or(x.Points-y.Points, marks(y)-marks(x))
		}
		return cmp.Or(y.Points-x.Points, marks(y)-marks(x))
	}
	var l []int
	for player := range t.players {
		l = append(l, player)
	}
	slices.SortStableFunc(l, order)
	var groups [][]int
	for i, player := range l {
		if i == 0 || order(l[i-1], player) != 0 {
			groups = append(groups, nil)
		}
		groups[len(groups)-1] = append(groups[len(groups)-1], player)
	}
	return groups
}

// rankByText returns what Rank should return for darts without an error.
func rankByText(r api.GameRules, darts []api.Bed) [][]int {
	t := newText(r, darts...)
	groups := t.groupsByText()
	if len(t.winners) == 0 {
		return groups
	}
	for i := range groups {
		groups[i] = slices.DeleteFunc(groups[i], func(player int) bool { return slices.Contains(t.winners, player) })
	}
	groups = slices.DeleteFunc(groups, func(group []int) bool { return len(group) == 0 })
	return slices.Insert(groups, 0, t.winners)
}

// lists returns all lists of just n of the beds, the smaller ones first if the beds are ascending.
func lists(beds []api.Bed, n int) [][]api.Bed {
	if n == 0 {
		return [][]api.Bed{nil}
	}
	var l [][]api.Bed
	for _, begun := range lists(beds, n-1) {
		for _, bed := range beds {
			l = append(l, append(slices.Clone(begun), bed))
		}
	}
	return l
}

// soonByText returns what Soon should return where there is no error, by trying all lists of beds.
func soonByText(r api.GameRules, darts, beds []api.Bed) [][]api.Bed {
	begun := newText(r, darts...)
	sorted := slices.Clone(beds)
	slices.Sort(sorted)
	for n := 1; n <= 3-len(begun.now().darts); n++ {
		var ways [][]api.Bed
		for _, l := range lists(sorted, n) {
			if begun.winsByText(l) {
				ways = append(ways, l)
			}
		}
		if len(ways) > 0 {
			return ways
		}
	}
	return nil
}

// winsByText reports whether the player who is next wins in this visit with the last dart of a list.
func (t *text) winsByText(l []api.Bed) bool {
	x := t.copied()
	for _, bed := range l {
		if len(x.winners) > 0 || len(x.visits) > len(t.visits) {
			return false
		}
		x.dart(bed)
	}
	return slices.Contains(x.winners, t.now().player)
}

// usefulByText returns what Useful should return where there is no error.
func usefulByText(r api.GameRules, darts []api.Bed) []api.Bed {
	begun := newText(r, darts...)
	missed := begun.copied()
	missed.dart(0)
	var beds []api.Bed
	for _, bed := range allBeds() {
		x := begun.copied()
		x.dart(bed)
		if !slices.Equal(x.players, missed.players) || !slices.Equal(x.winners, missed.winners) {
			beds = append(beds, bed)
		}
	}
	return beds
}

// allErrors returns the errors of Play, Soon, Useful and Rank, and whether one of them has a result beside an error.
func allErrors(r api.GameRules, darts, beds []api.Bed) (l [4]api.Errno, more bool) {
	s, at, play := game.Play(r, darts)
	ways, soon := game.Soon(r, darts, beds)
	all, useful := game.Useful(r, darts)
	groups, rank := game.Rank(r, darts)
	more = play != api.OK && !noState(s) || play == api.OK && at != 0 || soon != api.OK && len(ways) > 0 || useful != api.OK && len(all) > 0 || rank != api.OK && len(groups) > 0
	return [4]api.Errno{play, soon, useful, rank}, more
}

// sameErrors returns four times the same error.
func sameErrors(e api.Errno) [4]api.Errno { return [4]api.Errno{e, e, e, e} }
