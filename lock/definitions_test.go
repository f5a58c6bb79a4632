package lock_test

import (
	"slices"
	"strings"
	"testing"

	"bellarmine/api"
	"bellarmine/lock"
)

// In this file the definitions of the chapter are spelt out, by trying everything where they ask for all or for the best,
// and held against the functions, for all orders that there are.

// allLists returns all lists of so many numbers below a bound, in ascending order.
func allLists(length, bound int) [][]int {
	all := [][]int{nil}
	for range length {
		var longer [][]int
		for _, l := range all {
			for number := range bound {
				longer = append(longer, append(slices.Clone(l), number))
			}
		}
		all = longer
	}
	return all
}

// allOrders returns all orders of n barges, in ascending order.
func allOrders(n int) [][]int {
	all := [][]int{nil}
	for range n {
		var longer [][]int
		for _, l := range all {
			for barge := range n {
				if !slices.Contains(l, barge) {
					longer = append(longer, append(slices.Clone(l), barge))
				}
			}
		}
		all = longer
	}
	return all
}

// eachOrder visits all orders, those of fewer barges first.
func eachOrder(visit func(order []int)) {
	for n := 1; n <= lock.MaxBarges; n++ {
		for _, order := range allOrders(n) {
			visit(order)
		}
	}
}

// allTexts returns all texts of these letters, up to a length.
func allTexts(letters string, length int) []string {
	all := []string{""}
	for begin := 0; len(all[begin]) < length; begin++ {
		for _, letter := range letters {
			all = append(all, all[begin]+string(letter))
		}
	}
	return all
}

// allMoves returns all moves after which n barges came and left.
func allMoves(n int) []string {
	var all []string
	var add func(moves string, came, left int)
	add = func(moves string, came, left int) {
		if left == n {
			all = append(all, moves)
		}
		if came < n {
			add(moves+"i", came+1, left)
		}
		if left < came {
			add(moves+"o", came, left+1)
		}
	}
	add("", 0, 0)
	return all
}

// way is moves, and the places from which they take barges, in the order in which these leave.
type way struct {
	moves  string
	places []int
}

// allWays returns all moves of n barges, and where they lead.
func allWays(n int) []way {
	var all []way
	for _, moves := range allMoves(n) {
		places, _ := triedRun(upTo(n), moves)
		all = append(all, way{moves, places})
	}
	return all
}

// waysOfAll returns all moves, by the number of barges.
func waysOfAll() [][]way {
	var all [][]way
	for n := range lock.MaxBarges + 1 {
		all = append(all, allWays(n))
	}
	return all
}

// triedRun counts letters: the barge that leaves is the one that came with the last letter behind which as many barges
// came as left.
func triedRun(order []int, moves string) ([]int, api.Errno) {
	var left []int
	for at, letter := range []byte(moves) {
		came := strings.Count(moves[:at], "i")
		switch {
		case !strings.Contains("io", string(letter)):
			return nil, api.ErrForm
		case letter == 'i' && came == len(order):
			return nil, api.ErrNone
		case letter == 'o' && came == len(left):
			return nil, api.ErrEmpty
		case letter == 'o':
			left = append(left, order[lastHeld(moves[:at])])
		}
	}
	if len(left) < len(order) {
		return nil, api.ErrOpen
	}
	return left, api.OK
}

// lastHeld returns how many barges came before the one that came in last, of those in the basin.
func lastHeld(moves string) int {
	at := len(moves) - 1
	for moves[at] != 'i' || strings.Count(moves[at+1:], "i") != strings.Count(moves[at+1:], "o") {
		at--
	}
	return strings.Count(moves[:at], "i")
}

// triedPass keeps the barges in the basin in the order in which they leave.
func triedPass(order []int) (left []int, moves string) {
	var held []int
	for _, barge := range order {
		for len(held) > 0 && held[0] < barge {
			left, held, moves = append(left, held[0]), held[1:], moves+"o"
		}
		held, moves = slices.Insert(slices.Clone(held), 0, barge), moves+"i"
	}
	return append(left, held...), moves + strings.Repeat("o", len(held))
}

func isAscending(order []int) bool { return slices.Equal(order, upTo(len(order))) }

// triedEnough makes so many passes.
func triedEnough(order []int, passes int) bool {
	for range passes {
		order, _ = triedPass(order)
	}
	return isAscending(order)
}

// triedPasses returns the smallest number of passes that are enough.
func triedPasses(order []int) int {
	return slices.IndexFunc(upTo(len(order)), func(passes int) bool { return triedEnough(order, passes) })
}

// leftBy returns the order in which barges leave.
func leftBy(w way, order []int) []int {
	var left []int
	for _, place := range w.places {
		left = append(left, order[place])
	}
	return left
}

// triedSorted tries all moves.
func triedSorted(ways []way, order []int) bool {
	return slices.ContainsFunc(ways, func(w way) bool { return isAscending(leftBy(w, order)) })
}

// triedProves goes along what is asked of three places.
func triedProves(order []int, places []int) api.Errno {
	i, j, k := places[0], places[1], places[2]
	switch {
	case min(i, j, k) < 0 || max(i, j, k) >= len(order):
		return api.ErrNone
	case !(i < j && j < k):
		return api.ErrOrder
	case !(order[k] < order[i] && order[i] < order[j]):
		return api.ErrProof
	}
	return api.OK
}

// triedClashes finds the pairs that clash by the places of barges.
func triedClashes(order []int) [][2]int {
	place := placesOf(order)
	var all [][2]int
	for _, both := range allLists(2, len(order)) {
		one, other := both[0], both[1]
		behind := func(third int) bool { return place[third] > place[one] && place[third] > place[other] }
		if one < other && place[one] < place[other] && slices.ContainsFunc(upTo(min(one, other)), behind) {
			all = append(all, [2]int{one, other})
		}
	}
	return all
}

// placesOf returns the place of each barge.
func placesOf(order []int) []int {
	places := make([]int, len(order))
	for place, barge := range order {
		places[barge] = place
	}
	return places
}

// triedAscends tries, for barges that still come and the basin of each of them, all moves behind those after which barges
// are in the basins, and the next one is to leave.
func triedAscends(coming, into []int, basins [2][]int, next int) bool {
	if len(coming)+len(basins[0])+len(basins[1]) == 0 {
		return true
	}
	for i, held := range basins {
		if len(held) == 0 || held[len(held)-1] != next {
			continue
		}
		others := basins
		others[i] = held[:len(held)-1]
		if triedAscends(coming, into, others, next+1) {
			return true
		}
	}
	if len(coming) == 0 {
		return false
	}
	basins[into[0]] = append(slices.Clone(basins[into[0]]), coming[0])
	return triedAscends(coming[1:], into[1:], basins, next)
}

// triedTwo tries all lists of basins, and all moves for each.
func triedTwo(order []int, all [][]int) ([]int, bool) {
	for _, into := range all {
		if triedAscends(order, into, [2][]int{}, 0) {
			return into, true
		}
	}
	return nil, false
}

// P11.1: what Check lets pass are the orders, and nothing else.
func TestCheckAsDefined(t *testing.T) {
	number := map[api.Errno]int{}
	for length := range 6 {
		for _, l := range allLists(length, length+2) {
			want := api.OK
			for i := range l {
				l[i]--
			}
			for i, barge := range l {
				if !slices.Contains(upTo(length), barge) {
					want = api.ErrNone
					break
				}
				if slices.Contains(l[:i], barge) {
					want = api.ErrTwice
					break
				}
			}
			if length == 0 {
				want = api.ErrRange
			}
			if e := lock.Check(l); e != want {
				t.Fatalf("Check(%v) = %d, want %d", l, e, want)
			}
			number[want]++
		}
	}
	if number[api.OK] != 1+2+6+24+120 || min(number[api.ErrNone], number[api.ErrTwice]) < 1000 {
		t.Errorf("lists by their error: %v", number)
	}
	eachOrder(func(order []int) {
		if e := lock.Check(order); e != api.OK {
			t.Fatalf("Check(%v) = %d", order, e)
		}
	})
}

// P11.2: Pass and Moves.
func TestPassAsDefined(t *testing.T) {
	eachOrder(func(order []int) {
		want, wantMoves := triedPass(order)
		if l, e := lock.Pass(order); !slices.Equal(l, want) || e != api.OK {
			t.Fatalf("Pass(%v) = %v, %d, want %v", order, l, e, want)
		}
		if moves, e := lock.Moves(order); moves != wantMoves || e != api.OK {
			t.Fatalf("Moves(%v) = %q, %d, want %q", order, moves, e, wantMoves)
		}
	})
}

// P11.2: Run, for all moves that bring barges in and take all of them out.
func TestRunAsDefined(t *testing.T) {
	ways := waysOfAll()
	eachOrder(func(order []int) {
		for _, w := range ways[len(order)] {
			if l, e := lock.Run(order, w.moves); !slices.Equal(l, leftBy(w, order)) || e != api.OK {
				t.Fatalf("Run(%v, %q) = %v, %d, want %v", order, w.moves, l, e, leftBy(w, order))
			}
		}
	})
}

// P11.2: Run, for all texts of a few letters.
func TestRunErrorsAsDefined(t *testing.T) {
	number := map[api.Errno]int{}
	for _, x := range []struct {
		barges, length int
		letters        string
	}{{1, 6, "iox"}, {2, 6, "iox"}, {3, 7, "iox"}, {2, 5, "ioIO0 \n"}, {4, 9, "io"}, {5, 11, "io"}} {
		texts := allTexts(x.letters, x.length)
		for i, order := range allOrders(x.barges) {
			if i%7 > 1 {
				continue
			}
			for _, moves := range texts {
				want, wantError := triedRun(order, moves)
				if l, e := lock.Run(order, moves); !slices.Equal(l, want) || e != wantError {
					t.Fatalf("Run(%v, %q) = %v, %d, want %v, %d", order, moves, l, e, want, wantError)
				}
				number[wantError]++
			}
		}
	}
	for letter := range 256 {
		moves := "i" + string([]byte{byte(letter)})
		want, wantError := triedRun(list(0), moves)
		if l, e := lock.Run(list(0), moves); !slices.Equal(l, want) || e != wantError {
			t.Errorf("Run([0], %q) = %v, %d, want %v, %d", moves, l, e, want, wantError)
		}
	}
	if min(number[api.OK], number[api.ErrForm], number[api.ErrNone], number[api.ErrEmpty], number[api.ErrOpen]) < 100 {
		t.Errorf("moves by their error: %v: too few", number)
	}
}

// P11.3, M1: Sorted is true just if some of all moves lead to the ascending order.
func TestSortedAsDefined(t *testing.T) {
	ways := waysOfAll()
	eachOrder(func(order []int) {
		want := triedSorted(ways[len(order)], order)
		if is, e := lock.Sorted(order); is != want || e != api.OK {
			t.Fatalf("Sorted(%v) = %t, %d, want %t", order, is, e, want)
		}
	})
}

// P11.3, M3, M4: Why, and Proves for all places and those beside them: no others are accepted.
func TestWhyAsDefined(t *testing.T) {
	number := map[api.Errno]int{}
	ways := waysOfAll()
	for n := 1; n <= lock.MaxBarges; n++ {
		all := allLists(3, n+2)
		for _, places := range all {
			for i := range places {
				places[i]--
			}
		}
		for _, order := range allOrders(n) {
			first, firstError := list(0, 0, 0), api.ErrClash
			for _, places := range all {
				want := triedProves(order, places)
				if want == api.OK && firstError != api.OK {
					first, firstError = places, api.OK
				}
				if e := lock.Proves(order, places[0], places[1], places[2]); e != want {
					t.Fatalf("Proves(%v, %v) = %d, want %d", order, places, e, want)
				}
				number[want]++
			}
			if i, j, k, e := lock.Why(order); !slices.Equal(list(i, j, k), first) || e != firstError {
				t.Fatalf("Why(%v) = %d, %d, %d, %d, want %v, %d", order, i, j, k, e, first, firstError)
			}
			if triedSorted(ways[n], order) != (firstError == api.ErrClash) {
				t.Fatalf("%v: the first three places that bar it are %v, but some moves lead to the ascending order", order, first)
			}
		}
	}
	if min(number[api.OK], number[api.ErrNone], number[api.ErrOrder], number[api.ErrProof]) < 1000 {
		t.Errorf("places by their error: %v: too few", number)
	}
}

// P11.4, M2, M3: Passes is the smallest number, and Count counts each order once.
func TestPassesAsDefined(t *testing.T) {
	for n := 1; n <= lock.MaxBarges; n++ {
		orders := make([]int, n+2)
		for _, order := range allOrders(n) {
			want := triedPasses(order)
			if got, e := lock.Passes(order); got != want || e != api.OK {
				t.Fatalf("Passes(%v) = %d, %d, want %d", order, got, e, want)
			}
			for passes := range orders {
				if triedEnough(order, passes) {
					orders[passes]++
				}
			}
		}
		for passes, want := range orders {
			if got, e := lock.Count(n, passes); got != want || e != api.OK {
				t.Errorf("Count(%d, %d) = %d, %d, want %d", n, passes, got, e, want)
			}
		}
	}
}

// P11.5, M1: the moves of Leaves are the only ones of all moves that lead to the order; without them it is ErrLost.
func TestLeavesAsDefined(t *testing.T) {
	ways := waysOfAll()
	eachOrder(func(order []int) {
		var want []string
		for _, w := range ways[len(order)] {
			if slices.Equal(w.places, order) {
				want = append(want, w.moves)
			}
		}
		moves, e := lock.Leaves(order)
		if len(want) == 0 && (moves != "" || e != api.ErrLost) || len(want) > 0 && (moves != want[0] || e != api.OK) || len(want) > 1 {
			t.Fatalf("Leaves(%v) = %q, %d, want one of %q", order, moves, e, want)
		}
	})
}

// P11.6, M1: Clash returns all pairs that clash.
func TestClashAsDefined(t *testing.T) {
	eachOrder(func(order []int) {
		want := triedClashes(order)
		if l, e := lock.Clash(order); !slices.Equal(l, want) || e != api.OK {
			t.Fatalf("Clash(%v) = %v, %d, want %v", order, l, e, want)
		}
	})
}

// P11.6, M3: Two returns the first one of all lists of basins with which barges can leave in the ascending order.
func TestTwoAsDefined(t *testing.T) {
	number := map[bool]int{}
	for n := 1; n <= lock.MaxBarges; n++ {
		all := allLists(n, 2)
		for _, order := range allOrders(n) {
			want, is := triedTwo(order, all)
			wantError := api.OK
			if !is {
				wantError = api.ErrLost
			}
			if l, e := lock.Two(order); !slices.Equal(l, want) || e != wantError {
				t.Fatalf("Two(%v) = %v, %d, want %v, %d", order, l, e, want, wantError)
			}
			number[is]++
		}
	}
	if min(number[true], number[false]) < 1000 {
		t.Errorf("orders by whether two basins are enough: %v: too few", number)
	}
}
