package share_test

import (
	"slices"
	"testing"

	"bellarmine/api"
	"bellarmine/share"
)

// In this file the definitions of the chapter are spelt out with lists, by trying everything, and held against the
// functions.

// sharesOf returns, for each of n finders, the things that have this owner.
func sharesOf(n int, owners []int) [][]int {
	shares := make([][]int, n)
	for thing, owner := range owners {
		shares[owner] = append(shares[owner], thing)
	}
	return shares
}

// ownersOf returns who has each of n things.
func ownersOf(n int, shares [][]int) []int {
	owners := make([]int, n)
	for finder, things := range shares {
		for _, thing := range things {
			owners[thing] = finder
		}
	}
	return owners
}

// without returns a list without one of its places.
func without(numbers []int, place int) []int {
	return slices.Delete(slices.Clone(numbers), place, place+1)
}

// sum returns what things are worth together.
func sum(values []int, things []int) int {
	n := 0
	for _, thing := range things {
		n += values[thing]
	}
	return n
}

func triedEnvies(values [][]int, shares [][]int, one, other int) bool {
	return sum(values[one], shares[other]) > sum(values[one], shares[one])
}

func triedByMore(values [][]int, shares [][]int, one, other int) bool {
	for place := range shares[other] {
		if sum(values[one], without(shares[other], place)) <= sum(values[one], shares[one]) {
			return false
		}
	}
	return len(shares[other]) > 0
}

// triedPairs returns all pairs of a finder and another one of which something is so.
func triedPairs(values [][]int, owners []int, is func(values [][]int, shares [][]int, one, other int) bool) [][2]int {
	var l [][2]int
	shares := sharesOf(len(values), owners)
	for one := range values {
		for other := range values {
			if one != other && is(values, shares, one, other) {
				l = append(l, [2]int{one, other})
			}
		}
	}
	return l
}

func triedFair(values [][]int, owners []int) bool {
	return len(triedPairs(values, owners, triedEnvies)) == 0
}

// triedOwn returns what the own share is worth to each finder.
func triedOwn(values [][]int, owners []int) []int {
	var l []int
	for finder, things := range sharesOf(len(values), owners) {
		l = append(l, sum(values[finder], things))
	}
	return l
}

// triedGain returns how many finders have a share that is worth something to them, and the product of a division.
func triedGain(values [][]int, owners []int) []int {
	number, product := 0, 1
	for _, worth := range triedOwn(values, owners) {
		if worth > 0 {
			number, product = number+1, product*worth
		}
	}
	return list(number, product)
}

func triedBetter(values [][]int, owners, before []int) bool {
	a, b := triedOwn(values, owners), triedOwn(values, before)
	for finder := range a {
		if a[finder] < b[finder] {
			return false
		}
	}
	return !slices.Equal(a, b)
}

func triedTurns(values [][]int, order []int) []int {
	left := upTo(len(values[0]))
	owners := make([]int, len(left))
	for {
		for _, finder := range order {
			if len(left) == 0 {
				return owners
			}
			// Of several things that are worth most MaxFunc returns the first one, and the things ascend.
			thing := slices.MaxFunc(left, func(a, b int) int { return values[finder][a] - values[finder][b] })
			owners[thing] = finder
			left = without(left, slices.Index(left, thing))
		}
	}
}

// giving is what happened while things were given one after the other.
type giving struct {
	values, shares [][]int
	// turned counts rings by their length; begun those of them that do not begin with finder 0.
	turned [share.MaxFinders + 1]int
	begun  int
	// again counts the rings that were turned when another one had just been turned.
	again int
}

// envious returns all finders who envy one, in ascending order.
func (g *giving) envious(one int) []int {
	return slices.DeleteFunc(upTo(len(g.values)), func(other int) bool { return !triedEnvies(g.values, g.shares, other, one) })
}

// calm returns all finders whom nobody envies, in ascending order.
func (g *giving) calm() []int {
	return slices.DeleteFunc(upTo(len(g.values)), func(one int) bool { return len(g.envious(one)) > 0 })
}

// turn turns a ring.
func (g *giving) turn() {
	way := list(0)
	for {
		next := g.envious(way[len(way)-1])[0]
		if at := slices.Index(way, next); at >= 0 {
			if at > 0 {
				g.begun++
			}
			way = way[at:]
			break
		}
		way = append(way, next)
	}
	shares := slices.Clone(g.shares)
	for i, finder := range way {
		if i == 0 {
			shares[finder] = g.shares[way[len(way)-1]]
		} else {
			shares[finder] = g.shares[way[i-1]]
		}
	}
	g.shares = shares
	g.turned[len(way)]++
}

// triedRings gives all things, one after the other.
func triedRings(values [][]int) *giving {
	g := &giving{values: values, shares: make([][]int, len(values))}
	for thing := range values[0] {
		for turns := 0; len(g.calm()) == 0; turns++ {
			g.turn()
			if turns > 0 {
				g.again++
			}
		}
		finder := g.calm()[0]
		g.shares[finder] = append(slices.Clone(g.shares[finder]), thing)
	}
	return g
}

// shape is how many finders and things there are.
type shape struct{ finders, things int }

// allDivisions returns, for all numbers of finders and things, all divisions, in ascending order.
func allDivisions() map[shape][][]int {
	all := map[shape][][]int{}
	for finders := 1; finders <= share.MaxFinders; finders++ {
		divisions := lists(nil)
		for things := range share.MaxThings + 1 {
			all[shape{finders, things}] = divisions
			var longer [][]int
			for _, owners := range divisions {
				for finder := range finders {
					longer = append(longer, append(slices.Clone(owners), finder))
				}
			}
			divisions = longer
		}
	}
	return all
}

func shapeOf(values [][]int) shape { return shape{len(values), len(values[0])} }

// series is a row of numbers: always the same one for the same start.
type series uint32

func (s *series) below(n int) int {
	*s = *s*1664525 + 1013904223
	return int(*s>>16) % n
}

// order returns a list of the numbers below n, each once.
func (s *series) order(n int) []int {
	l := upTo(n)
	for i := range l {
		j := i + s.below(n-i)
		l[i], l[j] = l[j], l[i]
	}
	return l
}

// some returns all divisions if they are few, and some of them if they are many.
func (s *series) some(divisions [][]int) [][]int {
	if len(divisions) <= 32 {
		return divisions
	}
	var l [][]int
	for range 20 {
		l = append(l, divisions[s.below(len(divisions))])
	}
	return l
}

// kinds is how many kinds of values mixed has.
const kinds = 6

// mixed returns values of one of several kinds: any, small ones, any of which many are 0, those of finders who mostly
// agree, those of finders who all agree, and those of finders who each love some thing.
func (s *series) mixed(n shape, kind int) [][]int {
	values := worthless(n.finders, n.things)
	for thing := range n.things {
		common := s.below(share.MaxValue - 1)
		for finder := range n.finders {
			values[finder][thing] = list(s.below(share.MaxValue+1), s.below(4), max(0, s.below(40)-19), common+s.below(3), common, s.below(4))[kind]
		}
	}
	if kind == 5 && n.things > 0 {
		for finder := range n.finders {
			values[finder][s.below(n.things)] = share.MaxValue - s.below(3)
		}
	}
	return values
}

// eachSmallValues visits all small values: the numbers of finders and things, and the greatest value.
func eachSmallValues(visit func(values [][]int)) {
	for _, x := range []struct {
		shape
		most int
	}{
		{shape{1, 0}, 0}, {shape{2, 0}, 0}, {shape{3, 0}, 0}, {shape{4, 0}, 0}, {shape{1, 1}, 3}, {shape{1, 2}, 3}, {shape{1, 3}, 2},
		{shape{2, 1}, 4}, {shape{2, 2}, 4}, {shape{2, 3}, 2}, {shape{2, 4}, 1}, {shape{3, 1}, 3}, {shape{3, 2}, 2}, {shape{3, 3}, 1}, {shape{4, 1}, 2}, {shape{4, 2}, 1},
	} {
		numbers := make([]int, x.finders*x.things)
		for more := true; more; {
			var values [][]int
			for finder := range x.finders {
				values = append(values, slices.Clone(numbers[finder*x.things:(finder+1)*x.things]))
			}
			visit(values)
			more = false
			for i := range numbers {
				if numbers[i]++; numbers[i] <= x.most {
					more = true
					break
				}
				numbers[i] = 0
			}
		}
	}
}

// eachMixedValues visits values of all kinds and of all numbers of finders and things, with a series for what is needed
// besides.
func eachMixedValues(times int, visit func(s *series, values [][]int)) {
	for finders := 1; finders <= share.MaxFinders; finders++ {
		for things := range share.MaxThings + 1 {
			for time := range times * kinds {
				s := series(10000*finders + 1000*things + time)
				visit(&s, s.mixed(shape{finders, things}, time%kinds))
			}
		}
	}
}

// eachValues visits all small values, and mixed ones.
func eachValues(times int, visit func(s *series, values [][]int)) {
	small := series(1)
	eachSmallValues(func(values [][]int) { visit(&small, values) })
	eachMixedValues(times, visit)
}

// eachDivision visits divisions of all these values.
func eachDivision(times int, visit func(s *series, values [][]int, owners []int)) {
	all := allDivisions()
	eachValues(times, func(s *series, values [][]int) {
		for _, owners := range s.some(all[shapeOf(values)]) {
			visit(s, values, owners)
		}
	})
}

// P7.2; M1: all who envy, and no others.
func TestJudgedAsDefined(t *testing.T) {
	number := map[int]int{}
	eachDivision(16, func(_ *series, values [][]int, owners []int) {
		var worth [][]int
		for finder := range values {
			var l []int
			for _, things := range sharesOf(len(values), owners) {
				l = append(l, sum(values[finder], things))
			}
			worth = append(worth, l)
		}
		if l, e := share.Worth(values, owners); !sameLists(l, worth) || e != api.OK {
			t.Fatalf("Worth(%v, %v) = %v, %d, want %v", values, owners, l, e, worth)
		}
		envy := triedPairs(values, owners, triedEnvies)
		if l, e := share.Envy(values, owners); !slices.Equal(l, envy) || e != api.OK {
			t.Fatalf("Envy(%v, %v) = %v, %d, want %v", values, owners, l, e, envy)
		}
		fair := 0
		if len(envy) == 0 {
			fair = 2
		} else if len(triedPairs(values, owners, triedByMore)) == 0 {
			fair = 1
		}
		if n, e := share.Fair(values, owners); n != fair || e != api.OK {
			t.Fatalf("Fair(%v, %v) = %d, %d, want %d", values, owners, n, e, fair)
		}
		number[fair]++
	})
	if min(number[0], number[1], number[2]) < 3000 {
		t.Errorf("divisions by how fair they are: %v: too few", number)
	}
}

// P7.3; M4: finders who prove that a division is not fair but for one thing are accepted, and no others are.
func TestProofsAsDefined(t *testing.T) {
	several := 0
	eachDivision(12, func(_ *series, values [][]int, owners []int) {
		byMore := triedPairs(values, owners, triedByMore)
		want, wantError := [2]int{}, api.ErrClash
		if len(byMore) > 0 {
			want, wantError = byMore[0], api.OK
		}
		if one, other, e := share.Why(values, owners); one != want[0] || other != want[1] || e != wantError {
			t.Fatalf("Why(%v, %v) = %d, %d, %d, want %v, %d", values, owners, one, other, e, want, wantError)
		}
		for one := -1; one <= len(values); one++ {
			for other := -1; other <= len(values); other++ {
				want := api.ErrProof
				if min(one, other) < 0 || max(one, other) == len(values) {
					want = api.ErrNone
				} else if one == other {
					want = api.ErrTwice
				} else if slices.Contains(byMore, [2]int{one, other}) {
					want = api.OK
				}
				if e := share.Proves(values, owners, one, other); e != want {
					t.Fatalf("Proves(%v, %v, %d, %d) = %d, want %d", values, owners, one, other, e, want)
				}
			}
		}
		if len(byMore) > 1 {
			several++
		}
	})
	if several < 2000 {
		t.Errorf("only %d divisions with several proofs", several)
	}
}

// orders returns all lists of the numbers below n, each once.
func orders(n int) [][]int {
	all := lists(nil)
	for range n {
		var longer [][]int
		for _, some := range all {
			for number := range n {
				if !slices.Contains(some, number) {
					longer = append(longer, append(slices.Clone(some), number))
				}
			}
		}
		all = longer
	}
	return all
}

// P7.4.
func TestTurnsAsDefined(t *testing.T) {
	eachValues(24, func(_ *series, values [][]int) {
		for _, order := range orders(len(values)) {
			want := triedTurns(values, order)
			if l, e := share.Turns(values, order); !slices.Equal(l, want) || e != api.OK {
				t.Fatalf("Turns(%v, %v) = %v, %d, want %v", values, order, l, e, want)
			}
		}
	})
}

// P7.5.
func TestRingsAsDefined(t *testing.T) {
	var turned [share.MaxFinders + 1]int
	begun, again := 0, 0
	eachValues(900, func(_ *series, values [][]int) {
		g := triedRings(values)
		want := ownersOf(len(values[0]), g.shares)
		if l, e := share.Rings(values); !slices.Equal(l, want) || e != api.OK {
			t.Fatalf("Rings(%v) = %v, %d, want %v", values, l, e, want)
		}
		for length, n := range g.turned {
			turned[length] += n
		}
		begun, again = begun+g.begun, again+g.again
	})
	if min(turned[2], turned[3], turned[4]) < 50 || begun < 50 || again < 50 {
		t.Errorf("rings by their lengths: %v, without 0: %d, one after another one: %d: too few", turned, begun, again)
	}
}

// P7.6, P7.7; M2: each fair division is counted once; M3: the divisions that are returned are the first ones, and none
// has a greater product than Most.
func TestFoundAsDefined(t *testing.T) {
	all := allDivisions()
	number := map[api.Errno]int{}
	eachValues(12, func(_ *series, values [][]int) {
		divisions := all[shapeOf(values)]
		var free [][]int
		best := divisions[0]
		for _, owners := range divisions {
			if triedFair(values, owners) {
				free = append(free, owners)
			}
			if slices.Compare(triedGain(values, owners), triedGain(values, best)) > 0 {
				best = owners
			}
		}
		var first []int
		wantError := api.ErrLost
		if len(free) > 0 {
			first, wantError = free[0], api.OK
		}
		if l, e := share.Free(values); !slices.Equal(l, first) || e != wantError {
			t.Fatalf("Free(%v) = %v, %d, want %v, %d", values, l, e, first, wantError)
		}
		if n, e := share.Count(values); n != len(free) || e != api.OK {
			t.Fatalf("Count(%v) = %d, %d, want %d", values, n, e, len(free))
		}
		if l, e := share.Most(values); !slices.Equal(l, best) || e != api.OK {
			t.Fatalf("Most(%v) = %v, %d, want %v", values, l, e, best)
		}
		number[wantError]++
	})
	if min(number[api.OK], number[api.ErrLost]) < 1000 {
		t.Errorf("values by whether a division is fair: %v: too few", number)
	}
}

// P7.7; M3: no division before the one that is returned is better.
func TestBetterAsDefined(t *testing.T) {
	all := allDivisions()
	number := map[api.Errno]int{}
	eachDivision(2, func(_ *series, values [][]int, owners []int) {
		var want []int
		wantError := api.ErrClash
		divisions := all[shapeOf(values)]
		if at := slices.IndexFunc(divisions, func(other []int) bool { return triedBetter(values, other, owners) }); at >= 0 {
			want, wantError = divisions[at], api.OK
		}
		if l, e := share.Better(values, owners); !slices.Equal(l, want) || e != wantError {
			t.Fatalf("Better(%v, %v) = %v, %d, want %v, %d", values, owners, l, e, want, wantError)
		}
		number[wantError]++
	})
	if min(number[api.OK], number[api.ErrClash]) < 3000 {
		t.Errorf("divisions by whether one is better: %v: too few", number)
	}
}
