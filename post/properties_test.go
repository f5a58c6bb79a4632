package post_test

import (
	"slices"
	"testing"

	"bellarmine/api"
	"bellarmine/post"
)

// In this file what the chapter says of the functions together is checked.

func handOf(t *testing.T, shore []int, place int) []int {
	t.Helper()
	l, e := post.Hand(shore, place)
	if e != api.OK {
		t.Fatalf("Hand(%v, %d): error %d", shore, place, e)
	}
	return l
}

// listOf asks one of the functions of a shore that return a list.
func listOf(t *testing.T, ask func([]int) ([]int, api.Errno), shore []int) []int {
	t.Helper()
	l, e := ask(shore)
	if e != api.OK {
		t.Fatalf("%v: error %d", shore, e)
	}
	return l
}

func fewestOf(t *testing.T, shore []int) []int { t.Helper(); return listOf(t, post.Fewest, shore) }

func apartOf(t *testing.T, shore []int) []int { t.Helper(); return listOf(t, post.Apart, shore) }

func alwaysOf(t *testing.T, shore []int) []int { t.Helper(); return listOf(t, post.Always, shore) }

func neverOf(t *testing.T, shore []int) []int { t.Helper(); return listOf(t, post.Never, shore) }

func countOf(t *testing.T, shore []int) int {
	t.Helper()
	n, e := post.Count(shore)
	if e != api.OK {
		t.Fatalf("Count(%v): error %d", shore, e)
	}
	return n
}

func waysOf(t *testing.T, shore []int) int {
	t.Helper()
	n, e := post.Ways(shore)
	if e != api.OK {
		t.Fatalf("Ways(%v): error %d", shore, e)
	}
	return n
}

func cheapestOf(t *testing.T, shore, prices []int) []int {
	t.Helper()
	l, e := post.Cheapest(shore, prices)
	if e != api.OK {
		t.Fatalf("Cheapest(%v, %v): error %d", shore, prices, e)
	}
	return l
}

func guards(shore, posts []int) bool { return post.Guards(shore, posts) == api.OK }

func proves(shore, places []int) bool { return post.Proves(shore, places) == api.OK }

// P12.7, M4: no places that are apart are more than posts that guard the shore, and the most ones are as many as the
// fewest posts.
func TestPostsAndPlaces(t *testing.T) {
	all := postsOfAll()
	eachShore(func(_ *series, shore []int) {
		fewest, most := len(shore)+1, 0
		for _, places := range all[len(shore)] {
			if guards(shore, places) {
				fewest = min(fewest, len(places))
			}
			if proves(shore, places) {
				most = max(most, len(places))
			}
		}
		if most > fewest {
			t.Fatalf("%v: %d places are apart, but %d posts guard it", shore, most, fewest)
		}
	})
	eachSmall(8, func(_ *series, shore []int) { checkProof(t, shore) })
	eachGreat(250, func(_ *series, shore []int) { checkProof(t, shore) })
}

// checkProof checks that Apart proves that fewer posts than those of Fewest are not enough.
func checkProof(t *testing.T, shore []int) {
	t.Helper()
	posts, places := fewestOf(t, shore), apartOf(t, shore)
	if !guards(shore, posts) || !proves(shore, places) || len(posts) != len(places) {
		t.Fatalf("%v: Fewest is %v, accepted %t; Apart is %v, accepted %t", shore, posts, guards(shore, posts), places, proves(shore, places))
	}
}

// P12.8, M2: Count is odd.
func TestCountIsOdd(t *testing.T) {
	check := func(_ *series, shore []int) {
		if n := countOf(t, shore); n%2 != 1 {
			t.Fatalf("Count(%v) = %d", shore, n)
		}
	}
	eachSmall(8, check)
	eachGreat(250, check)
}

// M2: Count counts each list that Guards accepts, and Ways each of those that are no longer than Fewest.
func TestCountsAccepted(t *testing.T) {
	all := postsOfAll()
	eachShore(func(_ *series, shore []int) {
		fewest, count, ways := len(fewestOf(t, shore)), 0, 0
		for _, posts := range all[len(shore)] {
			if guards(shore, posts) {
				count++
				if len(posts) <= fewest {
					ways++
				}
			}
		}
		if n, m := countOf(t, shore), waysOf(t, shore); n != count || m != ways {
			t.Fatalf("%v: Count is %d and Ways %d, but %d and %d are accepted", shore, n, m, count, ways)
		}
	})
}

// P12.9: at most half of two or more places have a post in Fewest; in some shores just half of them do.
func TestHalfOfThem(t *testing.T) {
	halves := map[int]int{}
	check := func(_ *series, shore []int) {
		n := len(fewestOf(t, shore))
		if len(shore) >= 2 && 2*n > len(shore) {
			t.Fatalf("Fewest(%v) has %d posts", shore, n)
		}
		if 2*n == len(shore) {
			halves[len(shore)]++
		}
	}
	eachSmall(8, check)
	eachGreat(250, check)
	if min(halves[2], halves[4], halves[6], halves[8]) < 1 {
		t.Errorf("shores of which half of the places have a post, by how many places they have: %v", halves)
	}
}

// P12.10, M3: the posts of Cheapest cost at most as much as those of Fewest, and as any others that are accepted.
func TestCheapestAndFewest(t *testing.T) {
	all := postsOfAll()
	cheaper := 0
	eachShore(func(s *series, shore []int) {
		fewest := fewestOf(t, shore)
		for _, highest := range list(2, 4, post.MaxPrice) {
			prices := s.prices(len(shore), highest)
			cheapest := cheapestOf(t, shore, prices)
			cost := sumOf(prices, cheapest)
			if !guards(shore, cheapest) || cost > sumOf(prices, fewest) {
				t.Fatalf("Cheapest(%v, %v) = %v, Fewest = %v", shore, prices, cheapest, fewest)
			}
			if cost < sumOf(prices, fewest) {
				cheaper++
			}
			for _, posts := range all[len(shore)] {
				if sumOf(prices, posts) < cost && guards(shore, posts) {
					t.Fatalf("Cheapest(%v, %v) = %v, but %v are cheaper", shore, prices, cheapest, posts)
				}
			}
		}
	})
	if cheaper < 1000 {
		t.Errorf("only %d posts of Cheapest are cheaper than those of Fewest", cheaper)
	}
}

// P12.10: if all prices are equal, Cheapest is Fewest.
func TestEqualPrices(t *testing.T) {
	eachShore(func(_ *series, shore []int) {
		fewest := fewestOf(t, shore)
		for _, price := range list(1, 2, 7, 19, post.MaxPrice) {
			prices := slices.Repeat(list(price), len(shore))
			if cheapest := cheapestOf(t, shore, prices); !slices.Equal(cheapest, fewest) {
				t.Fatalf("Cheapest(%v, %v) = %v, but Fewest = %v", shore, prices, cheapest, fewest)
			}
		}
	})
}

// M7: if a place gets dearer, Cheapest does not get cheaper, and not dearer by more than that place does.
func TestDearer(t *testing.T) {
	eachShore(func(s *series, shore []int) {
		prices := s.prices(len(shore), post.MaxPrice-1)
		cost := sumOf(prices, cheapestOf(t, shore, prices))
		for place, price := range prices {
			dearer := slices.Clone(prices)
			dearer[place] = price + 1 + s.below(post.MaxPrice-price)
			more := sumOf(dearer, cheapestOf(t, shore, dearer))
			if more < cost || more > cost+dearer[place]-price {
				t.Fatalf("%v: the cheapest posts cost %d with the prices %v, but %d with %v", shore, cost, prices, more, dearer)
			}
		}
	})
}

// renamed returns numbers as they are by new names, in ascending order.
func renamed(numbers, names []int) []int {
	var others []int
	for _, number := range numbers {
		others = append(others, names[number])
	}
	slices.Sort(others)
	return others
}

// shoreBy returns a shore whose places have new names, so that the neighbours stay, and whether there is one.
func shoreBy(shore, names []int) ([]int, bool) {
	other := slices.Repeat(list(-1), len(shore))
	for place, behind := range shore[1:] {
		one, two := names[place+1], names[behind]
		greater := max(one, two)
		if other[greater] != -1 {
			return nil, false
		}
		other[greater] = min(one, two)
	}
	return other, true
}

// grown returns names that the places of a shore can get: the next one is always that of a neighbour.
func (s *series) grown(shore []int) []int {
	names := slices.Repeat(list(-1), len(shore))
	names[s.below(len(shore))] = 0
	for name := 1; name < len(shore); {
		place := s.below(len(shore))
		isNext := func(other int) bool { return names[other] >= 0 && areNeighbours(shore, place, other) }
		if names[place] == -1 && slices.ContainsFunc(upTo(len(shore)), isNext) {
			names[place] = name
			name++
		}
	}
	return names
}

// allOrders returns all lists of the numbers below n, each once.
func allOrders(n int) [][]int {
	all := [][]int{nil}
	for range n {
		var longer [][]int
		for _, l := range all {
			for number := range n {
				if !slices.Contains(l, number) {
					longer = append(longer, append(slices.Clone(l), number))
				}
			}
		}
		all = longer
	}
	return all
}

// checkNames checks that a shore with other numbers is the same one.
func checkNames(t *testing.T, s *series, shore, other, names []int) {
	t.Helper()
	if e := post.Check(other); e != api.OK {
		t.Fatalf("%v: Check(%v) = %d", shore, other, e)
	}
	if n, m := len(fewestOf(t, shore)), len(fewestOf(t, other)); n != m {
		t.Fatalf("Fewest(%v) has %d posts, Fewest(%v) %d", shore, n, other, m)
	}
	if n, m := len(apartOf(t, shore)), len(apartOf(t, other)); n != m {
		t.Fatalf("Apart(%v) has %d places, Apart(%v) %d", shore, n, other, m)
	}
	if n, m := countOf(t, shore), countOf(t, other); n != m {
		t.Fatalf("Count(%v) = %d, Count(%v) = %d", shore, n, other, m)
	}
	if n, m := waysOf(t, shore), waysOf(t, other); n != m {
		t.Fatalf("Ways(%v) = %d, Ways(%v) = %d", shore, n, other, m)
	}
	if want, got := renamed(alwaysOf(t, shore), names), alwaysOf(t, other); !slices.Equal(got, want) {
		t.Fatalf("Always(%v) = %v, but with the names %v Always(%v) = %v", shore, alwaysOf(t, shore), names, other, got)
	}
	if want, got := renamed(neverOf(t, shore), names), neverOf(t, other); !slices.Equal(got, want) {
		t.Fatalf("Never(%v) = %v, but with the names %v Never(%v) = %v", shore, neverOf(t, shore), names, other, got)
	}
	for place, name := range names {
		if want, got := renamed(handOf(t, shore, place), names), handOf(t, other, name); !slices.Equal(got, want) {
			t.Fatalf("Hand(%v, %d) = %v, but with the names %v Hand(%v, %d) = %v", shore, place, handOf(t, shore, place), names, other, name, got)
		}
	}
	prices, otherPrices := s.prices(len(shore), post.MaxPrice), make([]int, len(shore))
	for place, name := range names {
		otherPrices[name] = prices[place]
	}
	one, two := sumOf(prices, cheapestOf(t, shore, prices)), sumOf(otherPrices, cheapestOf(t, other, otherPrices))
	if one != two {
		t.Fatalf("the cheapest posts of %v cost %d, those of %v %d", shore, one, other, two)
	}
}

// P12.11, M5: other numbers of the places change only what comes first.
func TestNames(t *testing.T) {
	eachSmall(5, func(s *series, shore []int) {
		shores := 0
		for _, names := range allOrders(len(shore)) {
			if other, is := shoreBy(shore, names); is {
				checkNames(t, s, shore, other, names)
				shores++
			}
		}
		if shores < 1 || len(shore) == 5 && shores < 16 {
			t.Fatalf("%v can have only %d other names", shore, shores)
		}
	})
	check := func(s *series, shore []int) {
		names := s.grown(shore)
		other, is := shoreBy(shore, names)
		if !is {
			t.Fatalf("%v cannot have the names %v", shore, names)
		}
		checkNames(t, s, shore, other, names)
	}
	eachSmall(7, check)
	eachGreat(25, check)
}

// M5: posts and places are accepted just if they are with the other numbers of their places.
func TestNamesOfPosts(t *testing.T) {
	all := postsOfAll()
	eachShore(func(s *series, shore []int) {
		names := s.grown(shore)
		other, _ := shoreBy(shore, names)
		for _, places := range all[len(shore)] {
			others := renamed(places, names)
			if post.Guards(shore, places) != post.Guards(other, others) || post.Proves(shore, places) != post.Proves(other, others) {
				t.Fatalf("%v of %v, %v of %v: not both are accepted", places, shore, others, other)
			}
		}
	})
}

// P12.12, M7: with one place more, behind which any other one is, Fewest has as many posts, or one more.
func TestOnePlaceMore(t *testing.T) {
	number := map[int]int{}
	check := func(_ *series, shore []int) {
		if len(shore) == post.MaxPlaces {
			return
		}
		before, apart := len(fewestOf(t, shore)), len(apartOf(t, shore))
		for behind := range shore {
			more := append(slices.Clone(shore), behind)
			after := len(fewestOf(t, more))
			if after < before || after > before+1 {
				t.Fatalf("Fewest(%v) has %d posts, Fewest(%v) %d", shore, before, more, after)
			}
			if places := len(apartOf(t, more)); places-apart != after-before {
				t.Fatalf("Apart(%v) has %d places, Apart(%v) %d", shore, apart, more, places)
			}
			number[after-before]++
		}
	}
	eachSmall(7, check)
	eachGreat(100, check)
	if min(number[0], number[1]) < 1000 {
		t.Errorf("shores by how many posts one place adds: %v: too few", number)
	}
}

// P12.12, M7: posts that guard a shore still do with one post more; places that are apart still are with one place less.
func TestOnePostMore(t *testing.T) {
	all := postsOfAll()
	eachShore(func(_ *series, shore []int) {
		for _, places := range all[len(shore)] {
			guarded, apart := guards(shore, places), proves(shore, places)
			for place := range shore {
				more := slices.Sorted(slices.Values(append(slices.Clone(places), place)))
				if guarded && !slices.Contains(places, place) && !guards(shore, more) {
					t.Fatalf("%v guard %v, but %v do not", places, shore, more)
				}
			}
			for i := range places {
				less := slices.Delete(slices.Clone(places), i, i+1)
				if apart && !proves(shore, less) {
					t.Fatalf("%v are apart on %v, but %v are not", places, shore, less)
				}
			}
		}
	})
}

// M1, M3: Always and Never tell of just those lists that are as few as Fewest: a place is in each of them, or in none.
func TestAlwaysAndNever(t *testing.T) {
	all := postsOfAll()
	eachShore(func(_ *series, shore []int) {
		fewest := fewestOf(t, shore)
		inAll, inSome := upTo(len(shore)), map[int]bool{}
		for _, posts := range ofLength(all[len(shore)], len(fewest)) {
			if !guards(shore, posts) {
				continue
			}
			inAll = slices.DeleteFunc(inAll, func(place int) bool { return !slices.Contains(posts, place) })
			for _, place := range posts {
				inSome[place] = true
			}
		}
		inNone := slices.DeleteFunc(upTo(len(shore)), func(place int) bool { return inSome[place] })
		if always, never := alwaysOf(t, shore), neverOf(t, shore); !slices.Equal(always, inAll) || !slices.Equal(never, inNone) {
			t.Fatalf("%v: Always is %v and Never %v, want %v and %v", shore, always, never, inAll, inNone)
		}
		if is := slices.Equal(alwaysOf(t, shore), fewest); is != (waysOf(t, shore) == 1) {
			t.Fatalf("%v: Always is %v, Fewest %v, and there are %d ways", shore, alwaysOf(t, shore), fewest, waysOf(t, shore))
		}
	})
}
