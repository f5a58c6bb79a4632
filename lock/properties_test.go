package lock_test

import (
	"slices"
	"strings"
	"testing"

	"bellarmine/api"
	"bellarmine/lock"
)

// In this file what the chapter says of the functions together is checked, for all orders that there are.

func passOf(t *testing.T, order []int) []int {
	t.Helper()
	l, e := lock.Pass(order)
	if e != api.OK {
		t.Fatalf("Pass(%v): error %d", order, e)
	}
	return l
}

func movesOf(t *testing.T, order []int) string {
	t.Helper()
	moves, e := lock.Moves(order)
	if e != api.OK {
		t.Fatalf("Moves(%v): error %d", order, e)
	}
	return moves
}

func runOf(t *testing.T, order []int, moves string) []int {
	t.Helper()
	l, e := lock.Run(order, moves)
	if e != api.OK {
		t.Fatalf("Run(%v, %q): error %d", order, moves, e)
	}
	return l
}

func sortedOf(t *testing.T, order []int) bool {
	t.Helper()
	is, e := lock.Sorted(order)
	if e != api.OK {
		t.Fatalf("Sorted(%v): error %d", order, e)
	}
	return is
}

// whyOf returns the first three places that bar an order, and whether there are any.
func whyOf(t *testing.T, order []int) ([]int, bool) {
	t.Helper()
	i, j, k, e := lock.Why(order)
	if e != api.OK && e != api.ErrClash {
		t.Fatalf("Why(%v): error %d", order, e)
	}
	return list(i, j, k), e == api.OK
}

func provesOf(order []int, places []int) bool {
	return lock.Proves(order, places[0], places[1], places[2]) == api.OK
}

func passesOf(t *testing.T, order []int) int {
	t.Helper()
	n, e := lock.Passes(order)
	if e != api.OK {
		t.Fatalf("Passes(%v): error %d", order, e)
	}
	return n
}

func countOf(t *testing.T, barges, passes int) int {
	t.Helper()
	n, e := lock.Count(barges, passes)
	if e != api.OK {
		t.Fatalf("Count(%d, %d): error %d", barges, passes, e)
	}
	return n
}

// leavesOf returns the moves with which barges leave in an order, and whether they can.
func leavesOf(t *testing.T, order []int) (string, bool) {
	t.Helper()
	moves, e := lock.Leaves(order)
	if e != api.OK && e != api.ErrLost {
		t.Fatalf("Leaves(%v): error %d", order, e)
	}
	return moves, e == api.OK
}

func clashOf(t *testing.T, order []int) [][2]int {
	t.Helper()
	l, e := lock.Clash(order)
	if e != api.OK {
		t.Fatalf("Clash(%v): error %d", order, e)
	}
	return l
}

// twoOf returns the first list of basins, and whether two of them are enough.
func twoOf(t *testing.T, order []int) ([]int, bool) {
	t.Helper()
	l, e := lock.Two(order)
	if e != api.OK && e != api.ErrLost {
		t.Fatalf("Two(%v): error %d", order, e)
	}
	return l, e == api.OK
}

// numbersOfOrders returns how many orders of 1 to 7 barges have a property.
func numbersOfOrders(has func(order []int) bool) []int {
	numbers := make([]int, lock.MaxBarges)
	eachOrder(func(order []int) {
		if has(order) {
			numbers[len(order)-1]++
		}
	})
	return numbers
}

// P11.7, M1, M4: some moves lead to the ascending order just if one pass is enough, and just if no three places bar it:
// those that are returned are accepted, and if one pass is enough, none are.
func TestOnePass(t *testing.T) {
	sorted := map[bool]int{}
	eachOrder(func(order []int) {
		is := sortedOf(t, order)
		places, barred := whyOf(t, order)
		if is == barred || is != (passesOf(t, order) <= 1) || is != isAscending(passOf(t, order)) {
			t.Fatalf("%v: Sorted %t, barred by %v %t, %d passes, the first one leads to %v", order, is, places, barred, passesOf(t, order), passOf(t, order))
		}
		if barred && !provesOf(order, places) {
			t.Fatalf("%v: the places %v are not accepted", order, places)
		}
		for _, others := range allLists(3, len(order)) {
			if is && provesOf(order, others) {
				t.Fatalf("%v is Sorted, but the places %v are accepted", order, others)
			}
		}
		sorted[is]++
	})
	if min(sorted[true], sorted[false]) < 500 {
		t.Errorf("orders by whether they are Sorted: %v: too few", sorted)
	}
}

// P11.7, M1: there are as many orders that are Sorted as orders in which barges can leave.
func TestOnePassNumbers(t *testing.T) {
	want := list(1, 2, 5, 14, 42, 132, 429)
	sorted := numbersOfOrders(func(order []int) bool { return sortedOf(t, order) })
	leave := numbersOfOrders(func(order []int) bool { _, is := leavesOf(t, order); return is })
	if !slices.Equal(sorted, want) || !slices.Equal(leave, want) {
		t.Errorf("%v orders are Sorted, %v can leave, want %v", sorted, leave, want)
	}
	for n, number := range want {
		if got := countOf(t, n+1, 1); got != number {
			t.Errorf("Count(%d, 1) = %d, want %d", n+1, got, number)
		}
	}
}

// own returns the order of some barges that are numbered anew, and their numbers.
func own(barges []int) (order, numbers []int) {
	numbers = slices.Sorted(slices.Values(barges))
	for _, barge := range barges {
		order = append(order, slices.Index(numbers, barge))
	}
	return order, numbers
}

// ownPass returns the order in which some barges leave in a pass of their own.
func ownPass(t *testing.T, barges []int) []int {
	t.Helper()
	if len(barges) == 0 {
		return nil
	}
	order, numbers := own(barges)
	var left []int
	for _, barge := range passOf(t, order) {
		left = append(left, numbers[barge])
	}
	return left
}

// P11.8: the barges before the greatest one leave as in a pass of their own, then those behind it, and then the greatest one.
func TestPassByTheGreatest(t *testing.T) {
	eachOrder(func(order []int) {
		greatest := slices.Index(order, len(order)-1)
		want := slices.Concat(ownPass(t, order[:greatest]), ownPass(t, order[greatest+1:]), list(len(order)-1))
		if got := passOf(t, order); !slices.Equal(got, want) {
			t.Fatalf("Pass(%v) = %v, want %v", order, got, want)
		}
	})
}

// P11.8, M3: after so many passes as many greatest barges are at the end, so that n - 1 passes are enough: not always fewer.
func TestGreatestAtTheEnd(t *testing.T) {
	most := make([]int, lock.MaxBarges)
	eachOrder(func(order []int) {
		n, passes := len(order), passesOf(t, order)
		most[n-1] = max(most[n-1], passes)
		after := order
		for made := range n {
			if !slices.Equal(after[n-made:], upTo(n)[n-made:]) {
				t.Fatalf("%v: %v after %d passes", order, after, made)
			}
			if isAscending(after) != (made >= passes) {
				t.Fatalf("%v: %v after %d passes, but Passes = %d", order, after, made, passes)
			}
			if rest := passesOf(t, after); rest != max(0, passes-made) {
				t.Fatalf("%v: %d passes, but after %d of them %d", order, passes, made, rest)
			}
			after = passOf(t, after)
		}
	})
	if !slices.Equal(most, upTo(lock.MaxBarges)) {
		t.Errorf("the most passes of 1 to 7 barges are %v", most)
	}
}

// P11.9, M2.
func TestTwoPasses(t *testing.T) {
	want := list(1, 2, 6, 22, 91, 408, 1938)
	if got := numbersOfOrders(func(order []int) bool { return passesOf(t, order) <= 2 }); !slices.Equal(got, want) {
		t.Errorf("two passes are enough for %v orders, want %v", got, want)
	}
	for n, number := range want {
		if got := countOf(t, n+1, 2); got != number {
			t.Errorf("Count(%d, 2) = %d, want %d", n+1, got, number)
		}
	}
}

// M2: Count counts each order once: by no pass the ascending one only, by enough passes all of them.
func TestCountCountsAll(t *testing.T) {
	all := 1
	for n := 1; n <= lock.MaxBarges; n++ {
		all *= n
		if first, last := countOf(t, n, 0), countOf(t, n, n-1); first != 1 || last != all {
			t.Errorf("%d barges: without a pass %d orders, with enough of them %d, want 1 and %d", n, first, last, all)
		}
	}
}

// M7: with one pass more, as many orders or more are reached; more of them as long as not all are.
func TestMorePasses(t *testing.T) {
	for n := 1; n <= lock.MaxBarges; n++ {
		for passes := range n + 2 {
			before, after := countOf(t, n, passes), countOf(t, n, passes+1)
			if after < before || passes < n-1 && after == before {
				t.Errorf("Count(%d, %d) = %d, but with one pass more %d", n, passes, before, after)
			}
		}
	}
}

// P11.10, M6: Run with Moves is Pass.
func TestRunOfMoves(t *testing.T) {
	eachOrder(func(order []int) {
		if got, want := runOf(t, order, movesOf(t, order)), passOf(t, order); !slices.Equal(got, want) {
			t.Fatalf("Run(%v, %q) = %v, but Pass = %v", order, movesOf(t, order), got, want)
		}
	})
}

// P11.10, M6: Run of the ascending order with Leaves of an order is that order.
func TestRunOfLeaves(t *testing.T) {
	eachOrder(func(order []int) {
		moves, is := leavesOf(t, order)
		if !is {
			return
		}
		if got := runOf(t, upTo(len(order)), moves); !slices.Equal(got, order) {
			t.Fatalf("Leaves(%v) = %q, but they lead to %v", order, moves, got)
		}
	})
}

// P11.10, M6: no other moves lead to an order than Leaves of it.
func TestNoOtherMoves(t *testing.T) {
	for n := 1; n <= lock.MaxBarges; n++ {
		for _, moves := range allMoves(n) {
			order := runOf(t, upTo(n), moves)
			if got, is := leavesOf(t, order); got != moves || !is {
				t.Fatalf("%q leads to %v, but Leaves = %q, %t", moves, order, got, is)
			}
		}
	}
	for n := 1; n <= 5; n++ {
		orders := 0
		for _, moves := range allTexts("io", 2*n+1) {
			order, e := lock.Run(upTo(n), moves)
			if e != api.OK {
				continue
			}
			orders++
			if got, is := leavesOf(t, order); got != moves || !is {
				t.Fatalf("%q leads to %v, but Leaves = %q, %t", moves, order, got, is)
			}
		}
		if orders != countOf(t, n, 1) {
			t.Errorf("%d moves of %d barges, want %d", orders, n, countOf(t, n, 1))
		}
	}
}

// P11.10, M6: an order can leave just if its places are Sorted; with the moves of their pass they become ascending again.
func TestPlacesOfLeaves(t *testing.T) {
	eachOrder(func(order []int) {
		places := placesOf(order)
		_, is := leavesOf(t, order)
		if is != sortedOf(t, places) {
			t.Fatalf("%v can leave: %t, but its places %v are Sorted: %t", order, is, places, sortedOf(t, places))
		}
		if moves, _ := leavesOf(t, order); is && moves != movesOf(t, places) {
			t.Fatalf("%v leaves with %q, but the pass of its places %v is %q", order, moves, places, movesOf(t, places))
		}
	})
}

// isDivided returns whether no two barges of one basin clash.
func isDivided(order, into []int, clashes [][2]int) bool {
	places := placesOf(order)
	return !slices.ContainsFunc(clashes, func(both [2]int) bool { return into[places[both[0]]] == into[places[both[1]]] })
}

// P11.11, M3, M4: two basins are enough just if barges can be divided in two such that no two of the same one clash, and
// Two is the first such division.
func TestTwoAndClash(t *testing.T) {
	number := map[bool]int{}
	for n := 1; n <= lock.MaxBarges; n++ {
		all := allLists(n, 2)
		for _, order := range allOrders(n) {
			into, is := twoOf(t, order)
			clashes := clashOf(t, order)
			first := slices.IndexFunc(all, func(into []int) bool { return isDivided(order, into, clashes) })
			if is != (first >= 0) || is && !slices.Equal(into, all[first]) {
				t.Fatalf("%v: Two = %v, %t, but these clash: %v", order, into, is, clashes)
			}
			number[is]++
		}
	}
	if min(number[true], number[false]) < 1000 {
		t.Errorf("orders by whether two basins are enough: %v: too few", number)
	}
}

// P11.11, M4: one basin is enough just if no two barges clash; then Two brings all of them into the first one.
func TestOneBasin(t *testing.T) {
	eachOrder(func(order []int) {
		is := sortedOf(t, order)
		if is != (len(clashOf(t, order)) == 0) {
			t.Fatalf("Sorted(%v) = %t, but these clash: %v", order, is, clashOf(t, order))
		}
		into, _ := twoOf(t, order)
		if is != slices.Equal(into, make([]int, len(order))) {
			t.Fatalf("Sorted(%v) = %t, but Two = %v", order, is, into)
		}
	})
}

// M4: the barges at three places that bar an order are a pair that clashes and what it clashes by, and the other way round.
func TestClashesBar(t *testing.T) {
	eachOrder(func(order []int) {
		var told [][2]int
		for _, places := range allLists(3, len(order)) {
			if provesOf(order, places) {
				told = append(told, [2]int{order[places[0]], order[places[1]]})
			}
		}
		slices.SortFunc(told, func(a, b [2]int) int { return slices.Compare(a[:], b[:]) })
		if clashes := clashOf(t, order); !slices.Equal(slices.Compact(told), clashes) {
			t.Fatalf("%v: these clash: %v, but these bar it: %v", order, clashes, told)
		}
	})
}

// without returns a list without one of its places.
func without(l []int, place int) []int { return slices.Delete(slices.Clone(l), place, place+1) }

// P11.12, M7: without a barge an order that was Sorted still is, two basins that were enough still are, and what clashes
// clashed before. More passes can be needed.
func TestBargeLeftOut(t *testing.T) {
	var becomeSorted, becomeEnough, morePasses int
	eachOrder(func(order []int) {
		if len(order) == 1 {
			return
		}
		sorted, passes := sortedOf(t, order), passesOf(t, order)
		into, enough := twoOf(t, order)
		for place := range order {
			less, numbers := own(without(order, place))
			lessSorted := sortedOf(t, less)
			lessInto, lessEnough := twoOf(t, less)
			if sorted && !lessSorted || enough && !lessEnough {
				t.Fatalf("%v: Sorted %t, two basins %t; %v: %t, %t", order, sorted, enough, less, lessSorted, lessEnough)
			}
			if enough && slices.Compare(lessInto, without(into, place)) > 0 {
				t.Fatalf("%v: Two = %v, but of %v it is %v", order, into, less, lessInto)
			}
			for _, both := range clashOf(t, less) {
				if !slices.Contains(clashOf(t, order), [2]int{numbers[both[0]], numbers[both[1]]}) {
					t.Fatalf("%v: %v clash in %v, but not in %v", order, both, less, order)
				}
			}
			if lessSorted && !sorted {
				becomeSorted++
			}
			if lessEnough && !enough {
				becomeEnough++
			}
			if passesOf(t, less) > passes {
				morePasses++
			}
		}
	})
	if min(becomeSorted, becomeEnough, morePasses) < 100 {
		t.Errorf("without a barge %d orders become Sorted, two basins become enough for %d, and more passes are needed for %d: too few", becomeSorted, becomeEnough, morePasses)
	}
	if before, after := passesOf(t, list(2, 4, 1, 3, 0)), passesOf(t, list(2, 1, 3, 0)); before != 2 || after != 3 {
		t.Errorf("%d passes, and %d without the greatest barge, want 2 and 3", before, after)
	}
}

// M2: no barge is lost, and none leaves twice; each of them comes and leaves once by moves.
func TestBargesKept(t *testing.T) {
	eachOrder(func(order []int) {
		n := len(order)
		if got := slices.Sorted(slices.Values(passOf(t, order))); !isAscending(got) || len(got) != n {
			t.Fatalf("Pass(%v) = %v", order, passOf(t, order))
		}
		leaves, is := leavesOf(t, order)
		for _, moves := range []string{movesOf(t, order), leaves} {
			if moves == "" && !is {
				continue
			}
			if len(moves) != 2*n || strings.Count(moves, "i") != n || strings.Count(moves, "o") != n {
				t.Fatalf("%v: moves %q", order, moves)
			}
		}
		if into, is := twoOf(t, order); is && len(into) != n {
			t.Fatalf("Two(%v) = %v", order, into)
		}
		for i, both := range clashOf(t, order) {
			if both[0] >= both[1] || i > 0 && slices.Compare(clashOf(t, order)[i-1][:], both[:]) >= 0 {
				t.Fatalf("Clash(%v) = %v", order, clashOf(t, order))
			}
		}
	})
}

// raised returns numbers each of which is greater by 1.
func raised(numbers []int) []int {
	var all []int
	for _, number := range numbers {
		all = append(all, number+1)
	}
	return all
}

// M5: if barges and places have numbers greater by 1, as a new first barge comes, only the numbers change.
func TestNumbersRaised(t *testing.T) {
	eachOrder(func(order []int) {
		if len(order) == lock.MaxBarges {
			return
		}
		more := append(list(0), raised(order)...)
		if got, want := passOf(t, more), append(list(0), raised(passOf(t, order))...); !slices.Equal(got, want) {
			t.Fatalf("Pass(%v) = %v, want %v", more, got, want)
		}
		if got, want := movesOf(t, more), "io"+movesOf(t, order); got != want {
			t.Fatalf("Moves(%v) = %q, want %q", more, got, want)
		}
		if sortedOf(t, more) != sortedOf(t, order) || passesOf(t, more) != passesOf(t, order) {
			t.Fatalf("%v: Sorted %t, %d passes; %v: %t, %d", order, sortedOf(t, order), passesOf(t, order), more, sortedOf(t, more), passesOf(t, more))
		}
		places, barred := whyOf(t, order)
		if morePlaces, is := whyOf(t, more); is != barred || is && !slices.Equal(morePlaces, raised(places)) {
			t.Fatalf("Why(%v) = %v, but Why(%v) = %v", order, places, more, morePlaces)
		}
		leaves, can := leavesOf(t, order)
		if moves, is := leavesOf(t, more); is != can || is && moves != "io"+leaves {
			t.Fatalf("Leaves(%v) = %q, but Leaves(%v) = %q", order, leaves, more, moves)
		}
		clashes := clashOf(t, order)
		for i := range clashes {
			clashes[i] = [2]int{clashes[i][0] + 1, clashes[i][1] + 1}
		}
		if got := clashOf(t, more); !slices.Equal(got, clashes) {
			t.Fatalf("Clash(%v) = %v, want %v", more, got, clashes)
		}
		into, enough := twoOf(t, order)
		if moreInto, is := twoOf(t, more); is != enough || is && !slices.Equal(moreInto, append(list(0), into...)) {
			t.Fatalf("Two(%v) = %v, but Two(%v) = %v", order, into, more, moreInto)
		}
	})
}

// M5: which basin has which number matters only for what comes first: exchanged, each barge is as well off.
func TestBasinsExchanged(t *testing.T) {
	eachOrder(func(order []int) {
		into, is := twoOf(t, order)
		if !is {
			return
		}
		var others []int
		for _, basin := range into {
			others = append(others, 1-basin)
		}
		if !triedAscends(order, others, [2][]int{}, 0) || slices.Compare(others, into) < 0 {
			t.Fatalf("Two(%v) = %v, but not %v", order, into, others)
		}
	})
}

// M5: what moves do depends on places only: barges with other numbers leave from the same places.
func TestMovesAndNumbers(t *testing.T) {
	for n := 1; n <= 5; n++ {
		for _, moves := range allMoves(n) {
			places := runOf(t, upTo(n), moves)
			for _, order := range allOrders(n) {
				if got, want := runOf(t, order, moves), leftBy(way{moves, places}, order); !slices.Equal(got, want) {
					t.Fatalf("Run(%v, %q) = %v, want %v", order, moves, got, want)
				}
			}
		}
	}
}
