package grant_test

import (
	"cmp"
	"slices"
	"testing"

	"bellarmine/api"
	"bellarmine/grant"
)

// In this file the definitions of the chapter are spelt out by trying everything, and held against the functions.

// orders returns all lists of the numbers below n, each once, in ascending order.
func orders(n int) [][]int {
	all := [][]int{nil}
	for range n {
		var longer [][]int
		for _, some := range all {
			for number := range n {
				if !slices.Contains(some, number) {
					longer = append(longer, append(slices.Clone(some), number))
				}
			}
		}
		all = longer
	}
	return all
}

// allGroups returns all groups of n holders: those with fewer members first, of these the smaller ones first.
func allGroups(n int) [][]int {
	var groups [][]int
	for set := 1; set < 1<<n; set++ {
		groups = append(groups, slices.DeleteFunc(upTo(n), func(h int) bool { return set&(1<<h) == 0 }))
	}
	slices.SortFunc(groups, func(a, b []int) int { return cmp.Or(len(a)-len(b), slices.Compare(a, b)) })
	return groups
}

// likes returns whether the first stretch comes before the second one in the wishes of a holder.
func likes(wishes []int, one, other int) bool {
	return slices.Index(wishes, one) < slices.Index(wishes, other)
}

// triedTrade returns what everybody gets, the rounds, and the rings.
func triedTrade(wishes [][]int, holds []int) ([]int, []int, [][]int) {
	gets, rounds := make([]int, len(wishes)), make([]int, len(wishes))
	var rings [][]int
	present := upTo(len(wishes))
	for round := 1; len(present) > 0; round++ {
		to := map[int]int{}
		for _, h := range present {
			best := slices.MinFunc(present, func(a, b int) int {
				return slices.Index(wishes[h], holds[a]) - slices.Index(wishes[h], holds[b])
			})
			to[h] = best
		}
		var left []int
		for _, h := range present {
			way := []int{h}
			for next := to[h]; next != h && len(way) <= len(present); next = to[next] {
				way = append(way, next)
			}
			if len(way) > len(present) {
				left = append(left, h)
				continue
			}
			gets[h], rounds[h] = holds[to[h]], round
			if h == slices.Min(way) {
				rings = append(rings, way)
			}
		}
		present = left
	}
	return gets, rounds, rings
}

// wouldExchange tries all ways to divide the stretches of a group.
func wouldExchange(wishes [][]int, holds, gets, group []int) bool {
	for _, order := range orders(len(group)) {
		worse, better := false, false
		for i, h := range group {
			stretch := holds[group[order[i]]]
			worse = worse || likes(wishes[h], gets[h], stretch)
			better = better || likes(wishes[h], stretch, gets[h])
		}
		if better && !worse {
			return true
		}
	}
	return false
}

func triedTurn(wishes [][]int, order []int) []int {
	gets := make([]int, len(wishes))
	free := upTo(len(wishes))
	for _, h := range order {
		gets[h] = slices.MinFunc(free, func(a, b int) int { return slices.Index(wishes[h], a) - slices.Index(wishes[h], b) })
		free = slices.DeleteFunc(free, func(s int) bool { return s == gets[h] })
	}
	return gets
}

// eachSmallWishes visits all wishes of one, two and three holders.
func eachSmallWishes(visit func(wishes [][]int)) {
	for n := 1; n <= 3; n++ {
		lists := orders(n)
		all := [][][]int{nil}
		for range n {
			var longer [][][]int
			for _, some := range all {
				for _, l := range lists {
					longer = append(longer, append(slices.Clone(some), l))
				}
			}
			all = longer
		}
		for _, wishes := range all {
			visit(wishes)
		}
	}
}

// series is a row of numbers: always the same one for the same start.
type series uint32

func (s *series) below(n int) int {
	*s = *s*1664525 + 1013904223
	return int(*s>>16) % n
}

// order returns a list of the numbers below n, each once.
func (s *series) order(n int) []int {
	l := upTo(n)
	for i := range l {
		j := i + s.below(n-i)
		l[i], l[j] = l[j], l[i]
	}
	return l
}

// mixed returns wishes of n holders: some of them like much the same stretches, others do not.
func (s *series) mixed(n int) [][]int {
	common := s.order(n)
	var wishes [][]int
	for range n {
		if s.below(3) == 0 {
			wishes = append(wishes, s.order(n))
			continue
		}
		l, i := slices.Clone(common), s.below(n)
		l[0], l[i] = l[i], l[0]
		wishes = append(wishes, l)
	}
	return wishes
}

// eachMixedWishes visits some wishes of a number of holders, with a series for what is needed besides.
func eachMixedWishes(n, times int, visit func(s *series, wishes [][]int)) {
	for number := range times {
		s := series(1000*n + number)
		visit(&s, s.mixed(n))
	}
}

// eachExchange visits wishes and holdings: all small ones, and some of four to six holders.
func eachExchange(visit func(wishes [][]int, holds []int)) {
	eachSmallWishes(func(wishes [][]int) {
		for _, holds := range orders(len(wishes)) {
			visit(wishes, holds)
		}
	})
	for n := 4; n <= grant.MaxHolders; n++ {
		eachMixedWishes(n, 60, func(s *series, wishes [][]int) {
			visit(wishes, upTo(n))
			visit(wishes, s.order(n))
		})
	}
}

// P2.2, P2.3.
func TestTradeAsDefined(t *testing.T) {
	eachExchange(func(wishes [][]int, holds []int) {
		wantGets, wantRounds, wantRings := triedTrade(wishes, holds)
		slices.SortStableFunc(wantRings, func(a, b []int) int {
			return cmp.Or(wantRounds[a[0]]-wantRounds[b[0]], slices.Compare(a, b))
		})
		if got, e := grant.Trade(wishes, holds); !slices.Equal(got, wantGets) || e != api.OK {
			t.Fatalf("Trade(%v, %v) = %v, %d, want %v", wishes, holds, got, e, wantGets)
		}
		if got, e := grant.Rounds(wishes, holds); !slices.Equal(got, wantRounds) || e != api.OK {
			t.Fatalf("Rounds(%v, %v) = %v, %d, want %v", wishes, holds, got, e, wantRounds)
		}
		if got, e := grant.Rings(wishes, holds); !sameLists(got, wantRings) || e != api.OK {
			t.Fatalf("Rings(%v, %v) = %v, %d, want %v", wishes, holds, got, e, wantRings)
		}
		places, e := grant.Ranks(wishes, holds)
		if len(places) != len(holds) || e != api.OK {
			t.Fatalf("Ranks(%v, %v) = %v, %d", wishes, holds, places, e)
		}
		for h, place := range places {
			if wishes[h][place] != holds[h] {
				t.Fatalf("Ranks(%v, %v) = %v is wrong about %d", wishes, holds, places, h)
			}
		}
	})
}

// checkGroups holds Why and Proves against all groups that are tried.
func checkGroups(t *testing.T, wishes [][]int, holds, gets []int, groups [][]int) {
	t.Helper()
	var first []int
	for _, group := range groups {
		want := api.ErrProof
		if wouldExchange(wishes, holds, gets, group) {
			want = api.OK
		}
		if want == api.OK && first == nil {
			first = group
		}
		if e := grant.Proves(wishes, holds, gets, group); e != want {
			t.Fatalf("Proves(%v, %v, %v, %v) = %d, want %d", wishes, holds, gets, group, e, want)
		}
	}
	want := api.OK
	if first == nil {
		want = api.ErrClash
	}
	if got, e := grant.Why(wishes, holds, gets); !slices.Equal(got, first) || e != want {
		t.Fatalf("Why(%v, %v, %v) = %v, %d, want %v, %d", wishes, holds, gets, got, e, first, want)
	}
}

// P2.4, M4: what Why returns is accepted, and no other reasons than right ones are.
func TestGroupsAsDefined(t *testing.T) {
	eachSmallWishes(func(wishes [][]int) {
		n := len(wishes)
		for _, gets := range orders(n) {
			checkGroups(t, wishes, upTo(n), gets, allGroups(n))
		}
	})
	for n := 4; n <= 5; n++ {
		eachMixedWishes(n, 8, func(s *series, wishes [][]int) {
			holds := s.order(n)
			for _, gets := range orders(n) {
				checkGroups(t, wishes, holds, gets, allGroups(n))
			}
		})
	}
	eachMixedWishes(6, 40, func(s *series, wishes [][]int) {
		checkGroups(t, wishes, s.order(6), s.order(6), allGroups(6))
	})
}

// eachWishes visits all small wishes, and some of four to six holders.
func eachWishes(times int, visit func(wishes [][]int)) {
	eachSmallWishes(visit)
	for n := 4; n <= grant.MaxHolders; n++ {
		eachMixedWishes(n, times, func(_ *series, wishes [][]int) { visit(wishes) })
	}
	visit(alike(6))
	visit(content(6))
}

// P2.5; P2.8, M2: the counts of all results together are the number of all orders.
func TestOrdersAsDefined(t *testing.T) {
	eachWishes(10, func(wishes [][]int) {
		all := orders(len(wishes))
		first, count := map[string][]int{}, map[string]int{}
		for _, order := range all {
			gets := triedTurn(wishes, order)
			if got, e := grant.Turn(wishes, order); !slices.Equal(got, gets) || e != api.OK {
				t.Fatalf("Turn(%v, %v) = %v, %d, want %v", wishes, order, got, e, gets)
			}
			if first[key(gets)] == nil {
				first[key(gets)] = order
			}
			count[key(gets)]++
		}
		sum := 0
		for _, gets := range all {
			want := api.OK
			if count[key(gets)] == 0 {
				want = api.ErrLost
			}
			if got, e := grant.Order(wishes, gets); !slices.Equal(got, first[key(gets)]) || e != want {
				t.Fatalf("Order(%v, %v) = %v, %d, want %v, %d", wishes, gets, got, e, first[key(gets)], want)
			}
			got, e := grant.Count(wishes, gets)
			if got != count[key(gets)] || e != api.OK {
				t.Fatalf("Count(%v, %v) = %d, %d, want %d", wishes, gets, got, e, count[key(gets)])
			}
			sum += got
		}
		if sum != len(all) {
			t.Fatalf("%v: the counts are %d together, want %d", wishes, sum, len(all))
		}
	})
}

// key makes a list of numbers below 10 a key of a map.
func key(numbers []int) string {
	text := ""
	for _, number := range numbers {
		text += string(rune('0' + number))
	}
	return text
}
