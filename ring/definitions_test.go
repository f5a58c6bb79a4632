package ring_test

import (
	"cmp"
	"slices"
	"testing"

	"bellarmine/api"
	"bellarmine/ring"
)

// In this file the definitions of the chapter are spelt out by trying everything, and held against the functions.

// orders returns all lists of the numbers below n, each once, in ascending order.
func orders(n int) [][]int {
	all := [][]int{nil}
	for range n {
		var longer [][]int
		for _, some := range all {
			for number := range n {
				if !slices.Contains(some, number) {
					longer = append(longer, append(slices.Clone(some), number))
				}
			}
		}
		all = longer
	}
	return all
}

// allOrders returns for each number of forms all orders.
func allOrders() [ring.MaxForms + 1][][]int {
	var all [ring.MaxForms + 1][][]int
	for n := range all {
		all[n] = orders(n)
	}
	return all
}

// parts returns all lists of some numbers below n, each of them in ascending order: the shorter ones first, of these
// the smaller ones first.
func parts(n int) [][]int {
	var all [][]int
	for set := range 1 << n {
		all = append(all, slices.DeleteFunc(upTo(n), func(number int) bool { return set&(1<<number) == 0 }))
	}
	slices.SortFunc(all, func(a, b []int) int { return cmp.Or(len(a)-len(b), slices.Compare(a, b)) })
	return all
}

// allParts returns for each number of finds all lists of some of their indices.
func allParts() [ring.MaxFinds + 1][][]int {
	var all [ring.MaxFinds + 1][][]int
	for n := range all {
		all[n] = parts(n)
	}
	return all
}

// follows returns whether form a comes behind form b in an order.
func follows(order []int, a, b int) bool {
	for _, form := range order {
		if form == a {
			return false
		}
		if form == b {
			return true
		}
	}
	return false
}

func triedAgainst(f [][2]int, order []int) []int {
	var l []int
	for i, find := range f {
		if follows(order, find[0], find[1]) {
			l = append(l, i)
		}
	}
	return l
}

// triedBest returns, of all orders, those that contradict the fewest finds.
func triedBest(f [][2]int, all [][]int) [][]int {
	fewest := len(f)
	for _, order := range all {
		fewest = min(fewest, len(triedAgainst(f, order)))
	}
	var best [][]int
	for _, order := range all {
		if len(triedAgainst(f, order)) == fewest {
			best = append(best, order)
		}
	}
	return best
}

// triedRing returns whether different indices of finds are a ring, from whichever find it is told.
func triedRing(f [][2]int, indices []int) bool {
	if len(indices) < 2 {
		return false
	}
	var first, second []int
	for _, i := range indices {
		first, second = append(first, f[i][0]), append(second, f[i][1])
	}
	if !slices.Equal(second, append(slices.Clone(first[1:]), first[0])) {
		return false
	}
	slices.Sort(first)
	return len(slices.Compact(first)) == len(indices)
}

// triedToRing brings indices into the order in which they are a ring told from the smallest one on, and returns
// whether there is one. Finds of one ring begin at different forms, so at each of them only one find can follow.
func triedToRing(f [][2]int, indices []int) ([]int, bool) {
	var l []int
	for len(l) < len(indices) {
		next := indices[0]
		if len(l) > 0 {
			at := slices.IndexFunc(indices, func(i int) bool { return f[i][0] == f[l[len(l)-1]][1] })
			if at < 0 || slices.Contains(l, indices[at]) {
				return nil, false
			}
			next = indices[at]
		}
		l = append(l, next)
	}
	return l, triedRing(f, l)
}

// triedRings returns all rings, in ascending order; some are all lists of some indices of the finds.
func triedRings(f [][2]int, some [][]int) [][]int {
	var rings [][]int
	for _, indices := range some {
		if len(indices) > ring.MaxForms {
			break
		}
		if l, is := triedToRing(f, indices); is {
			rings = append(rings, l)
		}
	}
	slices.SortFunc(rings, slices.Compare[[]int])
	return rings
}

// share returns whether two lists have a number in common.
func share(a, b []int) bool {
	return slices.ContainsFunc(a, func(i int) bool { return slices.Contains(b, i) })
}

// canGo returns whether finds can be struck out: whether each ring loses one.
func canGo(rings [][]int, struck []int) bool {
	return !slices.ContainsFunc(rings, func(r []int) bool { return !share(r, struck) })
}

// triedApart returns, of all lists of rings of which no two have a find in common, of these the longest ones, the first
// one, if some rings are chosen already; all of those that are chosen are before the given ones.
func triedApart(rings, chosen [][]int) [][]int {
	best := slices.Clone(chosen)
	for i, r := range rings {
		if slices.ContainsFunc(chosen, func(other []int) bool { return share(r, other) }) {
			continue
		}
		l := triedApart(rings[i+1:], append(slices.Clone(chosen), r))
		if len(l) > len(best) || len(l) == len(best) && slices.CompareFunc(l, best, slices.Compare[[]int]) < 0 {
			best = l
		}
	}
	return best
}

// pairsOf returns all pairs of two different numbers below n, in ascending order.
func pairsOf(n int) [][2]int {
	var l [][2]int
	for a := range n {
		for b := range n {
			if a != b {
				l = append(l, [2]int{a, b})
			}
		}
	}
	return l
}

// series is a row of numbers: always the same one for the same start.
type series uint32

func (s *series) below(n int) int {
	*s = *s*1664525 + 1013904223
	return int(*s>>16) % n
}

// order returns a list of the numbers below n, each once.
func (s *series) order(n int) []int {
	l := upTo(n)
	for i := range l {
		j := i + s.below(n-i)
		l[i], l[j] = l[j], l[i]
	}
	return l
}

// orders returns all orders if they are few, and some of them if they are many.
func (s *series) orders(all [][]int) [][]int {
	if len(all) <= 24 {
		return all
	}
	some := [][]int{all[0]}
	for range 4 {
		some = append(some, all[s.below(len(all))])
	}
	return some
}

// find returns a find.
func (s *series) find(forms int) [2]int {
	l := s.order(forms)
	return [2]int{l[0], l[1]}
}

// mixed returns finds that mostly say what one order says, and of the rest there are more if they are wilder, which is
// a number of tenths.
func (s *series) mixed(forms, number, wilder int) [][2]int {
	var f [][2]int
	order := s.order(forms)
	for range number {
		find := s.find(forms)
		if s.below(10) >= wilder && follows(order, find[0], find[1]) {
			find = [2]int{find[1], find[0]}
		}
		f = append(f, find)
	}
	return f
}

// turning returns finds of which most lead from each form to the next one around, so that there are many rings.
func (s *series) turning(forms, number int) [][2]int {
	var f [][2]int
	order := s.order(forms)
	for i := range number {
		find := s.find(forms)
		if s.below(6) > 0 {
			find = [2]int{order[i%forms], order[(i+1)%forms]}
		}
		f = append(f, find)
	}
	for i, j := range s.order(number) {
		f[i], f[j] = f[j], f[i]
	}
	return f
}

// eachSmallFinds visits all finds of one and two forms with at most five finds, and of three forms with at most four.
func eachSmallFinds(visit func(forms int, f [][2]int)) {
	for forms, most := range []int{1: 0, 2: 5, 3: 4} {
		possible := pairsOf(forms)
		var more func(f [][2]int)
		more = func(f [][2]int) {
			visit(forms, f)
			if len(f) == most {
				return
			}
			for _, find := range possible {
				more(append(slices.Clone(f), find))
			}
		}
		if forms > 0 {
			more(nil)
		}
	}
}

// eachMixedFinds visits finds of two to six forms with all numbers of finds, with a series for what is needed besides.
func eachMixedFinds(times int, visit func(s *series, forms int, f [][2]int)) {
	for forms := 2; forms <= ring.MaxForms; forms++ {
		for time := range times {
			s := series(1000*forms + time)
			for number := range ring.MaxFinds + 1 {
				f := s.turning(forms, number)
				if wilder := []int{0, 2, 5, 10}[time%4]; wilder > 0 {
					f = s.mixed(forms, number, wilder)
				}
				visit(&s, forms, f)
			}
		}
	}
}

// eachFinds visits all small finds, and mixed ones.
func eachFinds(visit func(s *series, forms int, f [][2]int)) {
	small := series(1)
	eachSmallFinds(func(forms int, f [][2]int) { visit(&small, forms, f) })
	eachMixedFinds(8, visit)
}

// P4.1; M1: all finds that an order contradicts, and no others.
func TestAgainstAsDefined(t *testing.T) {
	all := allOrders()
	eachFinds(func(s *series, forms int, f [][2]int) {
		for _, order := range s.orders(all[forms]) {
			if l, e := ring.Against(forms, f, order); !slices.Equal(l, triedAgainst(f, order)) || e != api.OK {
				t.Fatalf("Against(%d, %v, %v) = %v, %d, want %v", forms, f, order, l, e, triedAgainst(f, order))
			}
		}
	})
}

// P4.2, P4.3; M1, M2: all best orders, each counted once, and all that is sure; M3: no order contradicts fewer finds,
// and none that contradicts as few is smaller.
func TestBestAsDefined(t *testing.T) {
	all := allOrders()
	eachFinds(func(_ *series, forms int, f [][2]int) {
		best := triedBest(f, all[forms])
		if n, e := ring.Fewest(forms, f); n != len(triedAgainst(f, best[0])) || e != api.OK {
			t.Fatalf("Fewest(%d, %v) = %d, %d, want %d", forms, f, n, e, len(triedAgainst(f, best[0])))
		}
		if l, e := ring.Order(forms, f); !slices.Equal(l, best[0]) || e != api.OK {
			t.Fatalf("Order(%d, %v) = %v, %d, want %v", forms, f, l, e, best[0])
		}
		if n, e := ring.Count(forms, f); n != len(best) || e != api.OK {
			t.Fatalf("Count(%d, %v) = %d, %d, want %d", forms, f, n, e, len(best))
		}
		var sure [][2]int
		for _, pair := range pairsOf(forms) {
			if !slices.ContainsFunc(best, func(order []int) bool { return follows(order, pair[0], pair[1]) }) {
				sure = append(sure, pair)
			}
		}
		if l, e := ring.Sure(forms, f); !slices.Equal(l, sure) || e != api.OK {
			t.Fatalf("Sure(%d, %v) = %v, %d, want %v", forms, f, l, e, sure)
		}
	})
}

// P4.4; M3: no list of finds that can be struck out is shorter, and none that is as short is smaller.
func TestStrikeAsDefined(t *testing.T) {
	some := allParts()
	eachFinds(func(_ *series, forms int, f [][2]int) {
		rings := triedRings(f, some[len(f)])
		at := slices.IndexFunc(some[len(f)], func(indices []int) bool { return canGo(rings, indices) })
		want := some[len(f)][at]
		if l, e := ring.Strike(forms, f); !slices.Equal(l, want) || e != api.OK {
			t.Fatalf("Strike(%d, %v) = %v, %d, want %v", forms, f, l, e, want)
		}
	})
}

// P4.5.
func TestTurnAsDefined(t *testing.T) {
	some := allParts()
	eachFinds(func(s *series, forms int, f [][2]int) {
		which := some[len(f)][s.below(len(some[len(f)]))]
		var want [][2]int
		for i, find := range f {
			if slices.Contains(which, i) {
				slices.Reverse(find[:])
			}
			want = append(want, find)
		}
		if l, e := ring.Turn(forms, f, which); !slices.Equal(l, want) || e != api.OK {
			t.Fatalf("Turn(%d, %v, %v) = %v, %d, want %v", forms, f, which, l, e, want)
		}
	})
}

// P4.6, P4.7; M3: no ring has fewer finds, and none with as few is smaller; not more rings can be apart, and no list of
// as many is smaller.
func TestRingsAsDefined(t *testing.T) {
	some := allParts()
	rich := 0
	eachFinds(func(_ *series, forms int, f [][2]int) {
		rings := triedRings(f, some[len(f)])
		var first []int
		want := api.ErrClash
		for _, r := range rings {
			if len(first) == 0 || len(r) < len(first) {
				first, want = r, api.OK
			}
		}
		if l, e := ring.Ring(forms, f); !slices.Equal(l, first) || e != want {
			t.Fatalf("Ring(%d, %v) = %v, %d, want %v, %d", forms, f, l, e, first, want)
		}
		apart := triedApart(rings, nil)
		if l, e := ring.Apart(forms, f); !sameLists(l, apart) || e != api.OK {
			t.Fatalf("Apart(%d, %v) = %v, %d, want %v", forms, f, l, e, apart)
		}
		if len(apart) > 1 {
			rich++
		}
	})
	if rich < 100 {
		t.Errorf("only %d finds with more than one ring apart: they are too much alike", rich)
	}
}

// wantProof returns what Proves has to return.
func wantProof(f [][2]int, indices []int) api.Errno {
	for place, i := range indices {
		if i < 0 || i >= len(f) {
			return api.ErrNone
		}
		if slices.Contains(indices[:place], i) {
			return api.ErrTwice
		}
	}
	if !triedRing(f, indices) || slices.Min(indices) != indices[0] {
		return api.ErrProof
	}
	return api.OK
}

// P4.6; M4: rings are accepted if they are told from their smallest index on, and no other lists are.
func TestProvesAsDefined(t *testing.T) {
	check := func(forms int, f [][2]int, indices []int) {
		if e, want := ring.Proves(forms, f, indices), wantProof(f, indices); e != want {
			t.Fatalf("Proves(%d, %v, %v) = %d, want %d", forms, f, indices, e, want)
		}
	}
	var lists [][]int
	for length := range 5 {
		var more func(l []int)
		more = func(l []int) {
			if len(l) == length {
				lists = append(lists, slices.Clone(l))
				return
			}
			for i := -1; i <= 4; i++ {
				more(append(l, i))
			}
		}
		more(nil)
	}
	eachSmallFinds(func(forms int, f [][2]int) {
		if len(f) <= 3 {
			for _, l := range lists {
				check(forms, f, l)
			}
		}
	})
	some := allParts()
	eachMixedFinds(8, func(s *series, forms int, f [][2]int) {
		for _, r := range triedRings(f, some[len(f)]) {
			check(forms, f, r)
			check(forms, f, r[:len(r)-1])
			check(forms, f, append(slices.Clone(r[1:]), r[0]))
			other := slices.Clone(r)
			slices.Reverse(other[1:])
			check(forms, f, other)
			other[s.below(len(r))] = s.below(len(f))
			check(forms, f, other)
			check(forms, f, append(slices.Clone(r), s.below(len(f))))
		}
		for range 20 {
			check(forms, f, s.order(len(f))[:s.below(len(f)+1)])
		}
	})
}
