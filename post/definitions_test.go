package post_test

import (
	"slices"
	"testing"

	"bellarmine/api"
	"bellarmine/post"
)

// In this file the definitions of the chapter are spelt out, by trying all lists of places where they ask for all or for
// the best, and held against the functions.

// allLists returns all lists of so many numbers from lowest to highest, in ascending order.
func allLists(length, lowest, highest int) [][]int {
	all := [][]int{nil}
	for range length {
		var longer [][]int
		for _, l := range all {
			for number := lowest; number <= highest; number++ {
				longer = append(longer, append(slices.Clone(l), number))
			}
		}
		all = longer
	}
	return all
}

// allShores returns all shores of n places, in ascending order.
func allShores(n int) [][]int {
	all := [][]int{{-1}}
	for place := 1; place < n; place++ {
		var longer [][]int
		for _, shore := range all {
			for behind := range place {
				longer = append(longer, append(slices.Clone(shore), behind))
			}
		}
		all = longer
	}
	return all
}

// allPosts returns all lists of posts on n places, in ascending order.
func allPosts(n int) [][]int {
	all := [][]int{nil}
	for place := range n {
		for _, posts := range all {
			all = append(all, append(slices.Clone(posts), place))
		}
	}
	slices.SortFunc(all, slices.Compare[[]int])
	return all
}

// series is a row of numbers: always the same one for the same start.
type series uint32

func (s *series) below(n int) int {
	*s = *s*1664525 + 1013904223
	return int(*s>>16) % n
}

// order returns a list of the numbers below n, each once.
func (s *series) order(n int) []int {
	l := upTo(n)
	for i := range l {
		j := i + s.below(n-i)
		l[i], l[j] = l[j], l[i]
	}
	return l
}

// shore returns a shore of n places, each of which lies behind one of so many places before it.
func (s *series) shore(n, near int) []int {
	shore := list(-1)
	for place := 1; place < n; place++ {
		shore = append(shore, place-1-s.below(min(place, near)))
	}
	return shore
}

// crowned returns a shore of n places, of which only so many first ones have others behind them.
func (s *series) crowned(n, inner int) []int {
	shore := list(-1)
	for place := 1; place < n; place++ {
		shore = append(shore, s.below(min(place, inner)))
	}
	return shore
}

// prices returns n prices of at most so much.
func (s *series) prices(n, highest int) []int {
	var prices []int
	for range n {
		prices = append(prices, 1+s.below(highest))
	}
	return prices
}

// eachSmall visits all shores of at most so many places, those of fewer places first.
func eachSmall(most int, visit func(s *series, shore []int)) {
	for n := 1; n <= most; n++ {
		for i, shore := range allShores(n) {
			s := series(10000*n + i)
			visit(&s, shore)
		}
	}
}

// eachGreat visits so many shores of each kind and number of places from 8 on.
func eachGreat(times int, visit func(s *series, shore []int)) {
	for n := 8; n <= post.MaxPlaces; n++ {
		for time := range times {
			s := series(100000*n + time)
			visit(&s, s.shore(n, n))
			visit(&s, s.shore(n, 2))
			visit(&s, s.shore(n, 3))
			visit(&s, s.crowned(n, 2+s.below(4)))
		}
	}
}

// eachShore visits all small shores, and some great ones.
func eachShore(visit func(s *series, shore []int)) {
	eachSmall(7, visit)
	eachGreat(25, visit)
}

// areNeighbours returns whether one of two places is behind the other one.
func areNeighbours(shore []int, one, other int) bool {
	return shore[one] == other || shore[other] == one
}

func triedHand(shore []int, place int) []int {
	var hand []int
	for other := range shore {
		if other == place || areNeighbours(shore, place, other) {
			hand = append(hand, other)
		}
	}
	return hand
}

// common returns whether two lists have a number in common.
func common(one, other []int) bool {
	return slices.ContainsFunc(one, func(number int) bool { return slices.Contains(other, number) })
}

func triedHands(shore []int) [][]int {
	var hands [][]int
	for place := range shore {
		hands = append(hands, triedHand(shore, place))
	}
	return hands
}

// guard returns whether posts guard a shore of which it is told what is at hand of each place.
func guard(hands [][]int, posts []int) bool {
	return !slices.ContainsFunc(hands, func(hand []int) bool { return !common(hand, posts) })
}

// areApart returns whether no two of some places have a place at hand in common.
func areApart(hands [][]int, places []int) bool {
	for i, one := range places {
		for _, other := range places[:i] {
			if common(hands[one], hands[other]) {
				return false
			}
		}
	}
	return true
}

// tried is what a shore has by its definition: all lists of posts that guard it, and of places that are apart.
type tried struct{ guarding, apart [][]int }

// postsOfAll returns all lists of posts, by the number of places.
func postsOfAll() [][][]int {
	var all [][][]int
	for n := range post.MaxPlaces + 1 {
		all = append(all, allPosts(n))
	}
	return all
}

// eachTried visits shores with what they have.
func eachTried(visit func(s *series, shore []int, x tried)) {
	all := postsOfAll()
	eachShore(func(s *series, shore []int) {
		hands := triedHands(shore)
		var x tried
		for _, places := range all[len(shore)] {
			if guard(hands, places) {
				x.guarding = append(x.guarding, places)
			}
			if areApart(hands, places) {
				x.apart = append(x.apart, places)
			}
		}
		visit(s, shore, x)
	})
}

// lengths returns the smallest and the greatest length of some lists.
func lengths(lists [][]int) (least, most int) {
	least = len(lists[0])
	for _, l := range lists {
		least, most = min(least, len(l)), max(most, len(l))
	}
	return least, most
}

// ofLength returns the lists of a length.
func ofLength(lists [][]int, length int) [][]int {
	return slices.DeleteFunc(slices.Clone(lists), func(l []int) bool { return len(l) != length })
}

// fewest returns the lists of posts that guard the shore and are as few as possible.
func (x tried) fewest() [][]int {
	least, _ := lengths(x.guarding)
	return ofLength(x.guarding, least)
}

// triedOrder returns the error of numbers that are to be places in strictly ascending order.
func triedOrder(n int, numbers []int) api.Errno {
	for i, number := range numbers {
		if !slices.Contains(upTo(n), number) {
			return api.ErrNone
		}
		if i > 0 && !(number > numbers[i-1]) {
			return api.ErrOrder
		}
	}
	return api.OK
}

// sumOf returns what posts cost together.
func sumOf(prices, posts []int) int {
	sum := 0
	for _, place := range posts {
		sum += prices[place]
	}
	return sum
}

// triedCheapest returns the first one of the cheapest lists of posts.
func triedCheapest(guarding [][]int, prices []int) []int {
	cheapest := guarding[0]
	for _, posts := range guarding {
		if sumOf(prices, posts) < sumOf(prices, cheapest) {
			cheapest = posts
		}
	}
	return cheapest
}

// P12.1: what Check lets pass are the shores, and nothing else.
func TestCheckAsDefined(t *testing.T) {
	number := map[api.Errno]int{}
	for length := range 6 {
		for _, l := range allLists(length, -2, length) {
			want := api.OK
			for place, behind := range l {
				if place == 0 && behind != -1 || place > 0 && !slices.Contains(upTo(place), behind) {
					want = api.ErrNone
				}
			}
			if length == 0 {
				want = api.ErrEmpty
			}
			if e := post.Check(l); e != want {
				t.Fatalf("Check(%v) = %d, want %d", l, e, want)
			}
			number[want]++
		}
	}
	if number[api.OK] != 1+1+2+6+24 || number[api.ErrEmpty] != 1 || number[api.ErrNone] < 10000 {
		t.Errorf("lists by their error: %v", number)
	}
	eachShore(func(_ *series, shore []int) {
		if e := post.Check(shore); e != api.OK {
			t.Fatalf("Check(%v) = %d", shore, e)
		}
	})
}

// P12.1, M1: Hand, for all places and those beside them.
func TestHandAsDefined(t *testing.T) {
	eachShore(func(_ *series, shore []int) {
		for place := -2; place < len(shore)+2; place++ {
			var want []int
			wantError := api.ErrNone
			if slices.Contains(upTo(len(shore)), place) {
				want, wantError = triedHand(shore, place), api.OK
			}
			if l, e := post.Hand(shore, place); !slices.Equal(l, want) || e != wantError {
				t.Fatalf("Hand(%v, %d) = %v, %d, want %v, %d", shore, place, l, e, want, wantError)
			}
		}
	})
}

// P12.2, M4: Guards and Proves, for all lists of places: no others are accepted.
func TestGuardsAsDefined(t *testing.T) {
	all := postsOfAll()
	number := map[string]int{}
	eachTried(func(_ *series, shore []int, x tried) {
		is := func(lists [][]int, places []int) api.Errno {
			if _, found := slices.BinarySearchFunc(lists, places, slices.Compare[[]int]); found {
				return api.OK
			}
			return api.ErrProof
		}
		for _, places := range all[len(shore)] {
			guards, proves := is(x.guarding, places), is(x.apart, places)
			if e := post.Guards(shore, places); e != guards {
				t.Fatalf("Guards(%v, %v) = %d, want %d", shore, places, e, guards)
			}
			if e := post.Proves(shore, places); e != proves {
				t.Fatalf("Proves(%v, %v) = %d, want %d", shore, places, e, proves)
			}
		}
		number["all"] += len(all[len(shore)])
		number["guard"] += len(x.guarding)
		number["apart"] += len(x.apart)
	})
	if number["guard"] < 1000 || number["apart"] < 1000 || number["guard"]+number["apart"] > number["all"] {
		t.Errorf("lists of places: %v", number)
	}
}

// P12.2: the errors of Guards and Proves, for all lists of a few numbers.
func TestNumbersAsDefined(t *testing.T) {
	number := map[api.Errno]int{}
	eachSmall(4, func(_ *series, shore []int) {
		hands := triedHands(shore)
		for length := range 6 {
			for _, numbers := range allLists(length, -1, len(shore)) {
				guards := triedOrder(len(shore), numbers)
				proves := guards
				if guards == api.OK && !guard(hands, numbers) {
					guards = api.ErrProof
				}
				if proves == api.OK && !areApart(hands, numbers) {
					proves = api.ErrProof
				}
				if e := post.Guards(shore, numbers); e != guards {
					t.Fatalf("Guards(%v, %v) = %d, want %d", shore, numbers, e, guards)
				}
				if e := post.Proves(shore, numbers); e != proves {
					t.Fatalf("Proves(%v, %v) = %d, want %d", shore, numbers, e, proves)
				}
				number[guards]++
				number[proves]++
			}
		}
	})
	if min(number[api.OK], number[api.ErrProof]) < 50 || min(number[api.ErrNone], number[api.ErrOrder]) < 10000 {
		t.Errorf("lists of numbers by their error: %v: too few", number)
	}
}

// P12.3, M3: Fewest and Apart.
func TestFewestAsDefined(t *testing.T) {
	eachTried(func(_ *series, shore []int, x tried) {
		want := x.fewest()[0]
		if l, e := post.Fewest(shore); !slices.Equal(l, want) || e != api.OK {
			t.Fatalf("Fewest(%v) = %v, %d, want %v", shore, l, e, want)
		}
		_, most := lengths(x.apart)
		want = ofLength(x.apart, most)[0]
		if l, e := post.Apart(shore); !slices.Equal(l, want) || e != api.OK {
			t.Fatalf("Apart(%v) = %v, %d, want %v", shore, l, e, want)
		}
	})
}

// P12.4, M2: Count and Ways count each list once.
func TestCountAsDefined(t *testing.T) {
	number := map[int]int{}
	eachTried(func(_ *series, shore []int, x tried) {
		if n, e := post.Count(shore); n != len(x.guarding) || e != api.OK {
			t.Fatalf("Count(%v) = %d, %d, want %d", shore, n, e, len(x.guarding))
		}
		want := len(x.fewest())
		if n, e := post.Ways(shore); n != want || e != api.OK {
			t.Fatalf("Ways(%v) = %d, %d, want %d", shore, n, e, want)
		}
		number[want]++
	})
	if len(number) < 15 {
		t.Errorf("shores by their ways: %v: too few of them", number)
	}
}

// P12.5, M1: Always and Never.
func TestAlwaysAsDefined(t *testing.T) {
	number := map[string]int{}
	eachTried(func(_ *series, shore []int, x tried) {
		var always, never []int
		for place := range shore {
			times := 0
			for _, posts := range x.fewest() {
				if slices.Contains(posts, place) {
					times++
				}
			}
			if times == len(x.fewest()) {
				always = append(always, place)
			}
			if times == 0 {
				never = append(never, place)
			}
		}
		if l, e := post.Always(shore); !slices.Equal(l, always) || e != api.OK {
			t.Fatalf("Always(%v) = %v, %d, want %v", shore, l, e, always)
		}
		if l, e := post.Never(shore); !slices.Equal(l, never) || e != api.OK {
			t.Fatalf("Never(%v) = %v, %d, want %v", shore, l, e, never)
		}
		number["always"] += len(always)
		number["never"] += len(never)
		number["neither"] += len(shore) - len(always) - len(never)
	})
	if min(number["always"], number["never"], number["neither"]) < 500 {
		t.Errorf("places: %v: too few", number)
	}
}

// P12.6, M3: Cheapest.
func TestCheapestAsDefined(t *testing.T) {
	others := 0
	eachTried(func(s *series, shore []int, x tried) {
		for _, highest := range list(1, 2, 3, 5, post.MaxPrice) {
			prices := s.prices(len(shore), highest)
			want := triedCheapest(x.guarding, prices)
			if l, e := post.Cheapest(shore, prices); !slices.Equal(l, want) || e != api.OK {
				t.Fatalf("Cheapest(%v, %v) = %v, %d, want %v", shore, prices, l, e, want)
			}
			if !slices.Equal(want, x.fewest()[0]) {
				others++
			}
		}
	})
	if others < 1000 {
		t.Errorf("only %d cheapest posts are not the fewest", others)
	}
}

// P12.6: Cheapest, for all prices of a few places, and those beside them.
func TestPricesAsDefined(t *testing.T) {
	all := postsOfAll()
	check := func(shore []int, guarding [][]int, prices []int) {
		t.Helper()
		var want []int
		wantError := api.ErrRange
		if len(prices) != len(shore) {
			wantError = api.ErrShape
		} else if slices.Min(prices) >= 1 && slices.Max(prices) <= 20 {
			want, wantError = triedCheapest(guarding, prices), api.OK
		}
		if l, e := post.Cheapest(shore, prices); !slices.Equal(l, want) || e != wantError {
			t.Fatalf("Cheapest(%v, %v) = %v, %d, want %v, %d", shore, prices, l, e, want, wantError)
		}
	}
	eachSmall(4, func(_ *series, shore []int) {
		hands := triedHands(shore)
		guarding := slices.DeleteFunc(slices.Clone(all[len(shore)]), func(posts []int) bool { return !guard(hands, posts) })
		for length := range 6 {
			for _, prices := range allLists(length, 0, 4) {
				check(shore, guarding, prices)
			}
			for _, prices := range allLists(length, 18, 21) {
				check(shore, guarding, prices)
			}
		}
	})
}
