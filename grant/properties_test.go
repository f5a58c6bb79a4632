package grant_test

import (
	"math"
	"slices"
	"testing"

	"bellarmine/api"
	"bellarmine/grant"
)

func tradeOf(t *testing.T, wishes [][]int, holds []int) []int {
	t.Helper()
	gets, e := grant.Trade(wishes, holds)
	if len(gets) != len(wishes) || e != api.OK {
		t.Fatalf("Trade(%v, %v) = %v, %d", wishes, holds, gets, e)
	}
	return gets
}

// P2.6, M1, M4: the core is the result of Trade alone.
func TestCore(t *testing.T) {
	check := func(wishes [][]int, holds []int) {
		right := tradeOf(t, wishes, holds)
		for _, gets := range orders(len(wishes)) {
			group, e := grant.Why(wishes, holds, gets)
			if slices.Equal(gets, right) {
				if len(group) > 0 || e != api.ErrClash {
					t.Fatalf("Why(%v, %v, %v) = %v, %d, though Trade returns this", wishes, holds, gets, group, e)
				}
				continue
			}
			if e != api.OK || grant.Proves(wishes, holds, gets, group) != api.OK || !wouldExchange(wishes, holds, gets, group) {
				t.Fatalf("Why(%v, %v, %v) = %v, %d, and Trade returns %v", wishes, holds, gets, group, e, right)
			}
		}
		for _, group := range allGroups(len(wishes)) {
			if e := grant.Proves(wishes, holds, right, group); e != api.ErrProof || wouldExchange(wishes, holds, right, group) {
				t.Fatalf("Proves(%v, %v, %v, %v) = %d, though Trade returns this", wishes, holds, right, group, e)
			}
		}
	}
	eachSmallWishes(func(wishes [][]int) {
		for _, holds := range orders(len(wishes)) {
			check(wishes, holds)
		}
	})
	for n := 4; n <= grant.MaxHolders; n++ {
		eachMixedWishes(n, 10, func(s *series, wishes [][]int) { check(wishes, s.order(n)) })
	}
}

// P2.7: nobody gains by wishes that are not the own ones.
func TestHonest(t *testing.T) {
	check := func(wishes [][]int, holds []int) {
		gets := tradeOf(t, wishes, holds)
		for h := range wishes {
			if likes(wishes[h], holds[h], gets[h]) {
				t.Fatalf("Trade(%v, %v) = %v: %d had a better one", wishes, holds, gets, h)
			}
			told := slices.Clone(wishes)
			for _, told[h] = range orders(len(wishes)) {
				if other := tradeOf(t, told, holds); likes(wishes[h], other[h], gets[h]) {
					t.Fatalf("Trade(%v, %v) = %v: %d gets %d by telling %v", wishes, holds, gets, h, other[h], told[h])
				}
			}
		}
	}
	eachSmallWishes(func(wishes [][]int) {
		for _, holds := range orders(len(wishes)) {
			check(wishes, holds)
		}
	})
	for n := 4; n <= grant.MaxHolders; n++ {
		eachMixedWishes(n, 10, func(s *series, wishes [][]int) { check(wishes, s.order(n)) })
	}
}

// P2.8, M2: orders of waiting and holdings lead to the same results, equally often.
func TestOrdersAndHoldings(t *testing.T) {
	eachWishes(20, func(wishes [][]int) {
		all := orders(len(wishes))
		traded := map[string]int{}
		for _, holds := range all {
			traded[key(tradeOf(t, wishes, holds))]++
		}
		sum := 0
		for _, gets := range all {
			count, e := grant.Count(wishes, gets)
			if count != traded[key(gets)] || e != api.OK {
				t.Fatalf("Count(%v, %v) = %d, %d, and Trade returns it for %d holdings", wishes, gets, count, e, traded[key(gets)])
			}
			sum += count
		}
		if sum != len(all) {
			t.Fatalf("%v: the counts are %d together, want %d", wishes, sum, len(all))
		}
	})
}

// noneBetter returns whether in each other result somebody gets a less liked stretch.
func noneBetter(wishes [][]int, gets []int, all [][]int) bool {
	return !slices.ContainsFunc(all, func(other []int) bool {
		if slices.Equal(other, gets) {
			return false
		}
		for h := range wishes {
			if likes(wishes[h], gets[h], other[h]) {
				return false
			}
		}
		return true
	})
}

// P2.9, M3; M6: an order that is found leads back to the result from which it was found.
func TestNoneBetter(t *testing.T) {
	check := func(wishes [][]int) {
		all := orders(len(wishes))
		best := map[string]bool{}
		for _, gets := range all {
			best[key(gets)] = noneBetter(wishes, gets, all)
			order, e := grant.Order(wishes, gets)
			if (e == api.OK) != best[key(gets)] || e != api.OK && e != api.ErrLost {
				t.Fatalf("Order(%v, %v) = %v, %d, with none better: %t", wishes, gets, order, e, best[key(gets)])
			}
			if e != api.OK {
				continue
			}
			if back, e := grant.Turn(wishes, order); !slices.Equal(back, gets) || e != api.OK {
				t.Fatalf("Turn(%v, %v) = %v, %d, though it was found for %v", wishes, order, back, e, gets)
			}
		}
		for _, l := range all {
			turned, _ := grant.Turn(wishes, l)
			if traded := tradeOf(t, wishes, l); !best[key(turned)] || !best[key(traded)] {
				t.Fatalf("%v: Turn(%v) = %v or Trade = %v is not the best", wishes, l, turned, traded)
			}
		}
	}
	eachSmallWishes(check)
	for n, times := range map[int]int{4: 30, 5: 10, 6: 2} {
		eachMixedWishes(n, times, func(_ *series, wishes [][]int) { check(wishes) })
	}
}

// P2.10: whoever got what a holder likes better went in an earlier round; and P2.2: the rings tell what Trade and
// Rounds tell.
func TestRings(t *testing.T) {
	eachExchange(func(wishes [][]int, holds []int) {
		gets := tradeOf(t, wishes, holds)
		rounds, _ := grant.Rounds(wishes, holds)
		rings, _ := grant.Rings(wishes, holds)
		for h := range wishes {
			for _, stretch := range wishes[h][:slices.Index(wishes[h], gets[h])] {
				if other := slices.Index(gets, stretch); rounds[other] >= rounds[h] {
					t.Fatalf("%v, %v: %d likes %d better, which %d gets in round %d", wishes, holds, h, stretch, other, rounds[other])
				}
			}
		}
		var members []int
		for i, ring := range rings {
			for j, h := range ring {
				if next := ring[(j+1)%len(ring)]; gets[h] != holds[next] || rounds[h] != rounds[ring[0]] || h < ring[0] {
					t.Fatalf("Rings(%v, %v) = %v: %d does not fit", wishes, holds, rings, h)
				}
			}
			if i > 0 {
				last := rings[i-1]
				if step := rounds[ring[0]] - rounds[last[0]]; step < 0 || step > 1 || step == 0 && slices.Compare(last, ring) >= 0 {
					t.Fatalf("Rings(%v, %v) = %v are not in order", wishes, holds, rings)
				}
			}
			members = append(members, ring...)
		}
		if slices.Sort(members); !slices.Equal(members, upTo(len(wishes))) || rounds[rings[0][0]] != 1 {
			t.Fatalf("Rings(%v, %v) = %v are not all holders", wishes, holds, rings)
		}
	})
}

// renamed is a way to give other numbers to holders and to stretches.
type renamed struct{ holders, stretches []int }

// result returns a list of a stretch for each holder with their other numbers.
func (r renamed) result(gets []int) []int {
	out := make([]int, len(gets))
	for h, stretch := range gets {
		out[r.holders[h]] = r.stretches[stretch]
	}
	return out
}

// group returns holders with their other numbers, in the same order.
func (r renamed) group(holders []int) []int {
	var out []int
	for _, h := range holders {
		out = append(out, r.holders[h])
	}
	return out
}

func (r renamed) wishes(wishes [][]int) [][]int {
	out := make([][]int, len(wishes))
	for h, l := range wishes {
		for _, stretch := range l {
			out[r.holders[h]] = append(out[r.holders[h]], r.stretches[stretch])
		}
	}
	return out
}

// P2.11, M5.
func TestRenamed(t *testing.T) {
	for n := 1; n <= grant.MaxHolders; n++ {
		eachMixedWishes(n, 60, func(s *series, wishes [][]int) {
			same := upTo(n)
			for _, r := range []renamed{{s.order(n), same}, {same, s.order(n)}, {s.order(n), s.order(n)}} {
				checkTradeRenamed(t, r, wishes, s.order(n))
				checkGroupsRenamed(t, r, wishes, s.order(n), s.order(n))
				checkOrdersRenamed(t, r, wishes, s.order(n))
			}
		})
	}
}

func checkTradeRenamed(t *testing.T, r renamed, wishes [][]int, holds []int) {
	t.Helper()
	others, has := r.wishes(wishes), r.result(holds)
	if got, want := tradeOf(t, others, has), r.result(tradeOf(t, wishes, holds)); !slices.Equal(got, want) {
		t.Fatalf("%v, %v: Trade = %v, want %v", wishes, r, got, want)
	}
	rounds, _ := grant.Rounds(wishes, holds)
	otherRounds, _ := grant.Rounds(others, has)
	places, _ := grant.Ranks(wishes, holds)
	otherPlaces, _ := grant.Ranks(others, has)
	for h, other := range r.holders {
		if rounds[h] != otherRounds[other] || places[h] != otherPlaces[other] {
			t.Fatalf("%v, %v: Rounds = %v, %v; Ranks = %v, %v", wishes, r, rounds, otherRounds, places, otherPlaces)
		}
	}
	rings, _ := grant.Rings(wishes, holds)
	otherRings, _ := grant.Rings(others, has)
	for _, ring := range rings {
		ring = r.group(ring)
		first := slices.Index(ring, slices.Min(ring))
		ring = slices.Concat(ring[first:], ring[:first])
		if !slices.ContainsFunc(otherRings, func(other []int) bool { return slices.Equal(other, ring) }) {
			t.Fatalf("%v, %v: Rings = %v, %v, without %v", wishes, r, rings, otherRings, ring)
		}
	}
}

func checkGroupsRenamed(t *testing.T, r renamed, wishes [][]int, holds, gets []int) {
	t.Helper()
	others := r.wishes(wishes)
	for _, group := range allGroups(len(wishes)) {
		other := r.group(group)
		slices.Sort(other)
		e, f := grant.Proves(wishes, holds, gets, group), grant.Proves(others, r.result(holds), r.result(gets), other)
		if e != f {
			t.Fatalf("%v, %v: Proves(%v) = %d, Proves(%v) = %d", wishes, r, group, e, other, f)
		}
	}
	one, e := grant.Why(wishes, holds, gets)
	other, f := grant.Why(others, r.result(holds), r.result(gets))
	if len(one) != len(other) || e != f {
		t.Fatalf("%v, %v: Why = %v, %d; %v, %d", wishes, r, one, e, other, f)
	}
}

func checkOrdersRenamed(t *testing.T, r renamed, wishes [][]int, order []int) {
	t.Helper()
	others := r.wishes(wishes)
	gets, _ := grant.Turn(wishes, order)
	if got, e := grant.Turn(others, r.group(order)); !slices.Equal(got, r.result(gets)) || e != api.OK {
		t.Fatalf("%v, %v: Turn(%v) = %v, %d, want %v", wishes, r, order, got, e, r.result(gets))
	}
	for _, l := range [][]int{gets, order} {
		one, _ := grant.Count(wishes, l)
		other, _ := grant.Count(others, r.result(l))
		_, e := grant.Order(wishes, l)
		_, f := grant.Order(others, r.result(l))
		if one != other || e != f || (one == 0) != (e == api.ErrLost) {
			t.Fatalf("%v, %v: Count(%v) = %d, %d; Order %d, %d", wishes, r, l, one, other, e, f)
		}
	}
}

// P2.12, M7: what a holder has becomes more liked.
func TestMoreLiked(t *testing.T) {
	eachExchange(func(wishes [][]int, holds []int) {
		gets := tradeOf(t, wishes, holds)
		for h, stretch := range holds {
			for other := range wishes {
				if other == h {
					continue
				}
				for to := range slices.Index(wishes[other], stretch) {
					told := slices.Clone(wishes)
					rest := slices.DeleteFunc(slices.Clone(wishes[other]), func(s int) bool { return s == stretch })
					told[other] = slices.Insert(rest, to, stretch)
					if after := tradeOf(t, told, holds); likes(wishes[h], gets[h], after[h]) {
						t.Fatalf("Trade(%v, %v) = %v: %d gets %d if %d tells %v", wishes, holds, gets, h, after[h], other, told[other])
					}
				}
			}
		}
	})
}

// P2.12: an exchange that comes about only by the other one's wishes.
func TestMoreLikedGains(t *testing.T) {
	wishes := [][]int{{1, 0, 2}, {2, 1, 0}, {2, 0, 1}}
	if gets := tradeOf(t, wishes, list(0, 1, 2)); !slices.Equal(gets, list(0, 1, 2)) {
		t.Errorf("Trade = %v, want 0 1 2", gets)
	}
	wishes[1] = list(0, 2, 1)
	if gets := tradeOf(t, wishes, list(0, 1, 2)); !slices.Equal(gets, list(1, 0, 2)) {
		t.Errorf("Trade = %v, want 1 0 2", gets)
	}
}

// withSpare returns a copy of a list with a number behind its end, which must not be written to either.
func withSpare(numbers []int) []int { return append(slices.Clone(numbers), -7)[:len(numbers)] }

func ruin(lists ...[]int) {
	for _, l := range lists {
		l = l[:cap(l)]
		for i := range l {
			l[i] = -99
		}
	}
}

// R4: arguments stay as they were, and results share no memory with them or with one another.
func TestOwnMemory(t *testing.T) {
	wishes := wishesW()
	for h := range wishes {
		wishes[h] = withSpare(wishes[h])
	}
	holds, gets, group, order := withSpare(own()), withSpare(list(1, 2, 0, 3)), withSpare(list(0, 1)), withSpare(list(3, 2, 1, 0))
	for range 2 {
		traded, _ := grant.Trade(wishes, holds)
		rounds, _ := grant.Rounds(wishes, holds)
		places, _ := grant.Ranks(wishes, gets)
		why, _ := grant.Why(wishes, holds, holds)
		turned, _ := grant.Turn(wishes, order)
		first, _ := grant.Order(wishes, gets)
		count, _ := grant.Count(wishes, gets)
		proves := grant.Proves(wishes, holds, holds, group)
		if !slices.Equal(traded, list(1, 2, 0, 3)) || !slices.Equal(rounds, list(1, 1, 1, 2)) || !slices.Equal(places, list(0, 0, 0, 3)) ||
			!slices.Equal(why, list(0, 1)) || !slices.Equal(turned, list(3, 2, 1, 0)) || !slices.Equal(first, own()) || count != 6 || proves != api.OK {
			t.Fatalf("results after others were overwritten: %v %v %v %v %v %v %d %d", traded, rounds, places, why, turned, first, count, proves)
		}
		rings, _ := grant.Rings(wishes, holds)
		for i, want := range [][]int{{0, 1, 2}, {3}} {
			if len(rings) != 2 || !slices.Equal(rings[i], want) {
				t.Fatalf("Rings = %v: %d is wrong after others were overwritten", rings, i)
			}
			ruin(rings[i])
		}
		ruin(traded, rounds, places, why, turned, first)
	}
	if !sameLists(wishes, wishesW()) || !slices.Equal(holds, own()) || !slices.Equal(gets, list(1, 2, 0, 3)) ||
		!slices.Equal(group, list(0, 1)) || !slices.Equal(order, list(3, 2, 1, 0)) {
		t.Errorf("arguments were changed: %v %v %v %v %v", wishes, holds, gets, group, order)
	}
	for _, l := range append(wishes, holds, gets, group, order) {
		if spare := l[:len(l)+1]; spare[len(l)] != -7 {
			t.Errorf("the memory behind %v was written to: %v", l, spare)
		}
	}
}

// P1: every function returns for all arguments, and the same for equal ones; R3: nil is a list without elements.
func TestAllArguments(t *testing.T) {
	lists := [][]int{nil, {}, {0}, {-1}, {1}, {math.MaxInt, math.MinInt}, {0, 1}, {1, 0}, {1, 1}, {0, 0}, {0, 2},
		{0, 1, 2}, {2, 0, 1}, {2, 2, 2}, {5, 4, 3, 2, 1, 0}, {0, 1, 2, 3, 4, 6}, make([]int, 6), upTo(7), make([]int, 1000)}
	all := [][][]int{nil, {}, {nil}, {{}}, {{0}}, {{1}}, {{0, 1}, {1, 0}}, {{0, 1}, {1}}, {{math.MaxInt, 0}, {0, 1}},
		{{2, 1, 0}, {0, 1, 2}, {0, 2, 1}}, alike(6), content(6), alike(7), make([][]int, 6), make([][]int, 1000), alike(100), lists}
	for _, wishes := range all {
		for _, one := range lists {
			for _, other := range lists {
				for _, group := range lists {
					if got, again := answers(wishes, one, other, group), answers(wishes, one, other, group); !slices.Equal(got, again) {
						t.Fatalf("%v, %v, %v and %v: %v, then %v", wishes, one, other, group, got, again)
					}
				}
			}
		}
	}
	for _, wishes := range all {
		if got, want := answers(wishes, nil, nil, nil), answers(wishes, []int{}, []int{}, []int{}); !slices.Equal(got, want) {
			t.Errorf("%v: %v with nil, %v with lists without elements", wishes, got, want)
		}
	}
}

// answers calls all functions and returns all numbers that they return.
func answers(wishes [][]int, one, other, group []int) []int {
	all := []int{int(grant.Check(wishes)), int(grant.Listed(wishes, one)), int(grant.Proves(wishes, one, other, group))}
	add := func(numbers []int, e api.Errno) { all = append(append(append(all, len(numbers)), numbers...), int(e)) }
	add(grant.Trade(wishes, one))
	add(grant.Rounds(wishes, one))
	rings, e := grant.Rings(wishes, one)
	for _, ring := range rings {
		add(ring, e)
	}
	add(nil, e)
	add(grant.Ranks(wishes, one))
	add(grant.Why(wishes, one, other))
	add(grant.Turn(wishes, one))
	add(grant.Order(wishes, one))
	count, e := grant.Count(wishes, one)
	return append(all, count, int(e))
}
