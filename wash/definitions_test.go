package wash_test

import (
	"slices"
	"testing"

	"bellarmine/api"
	"bellarmine/wash"
)

// In this file the definitions of the chapter are spelt out, by trying all tides where they ask for all or for the first,
// and held against the functions, for all tides that there are.

// allLists returns all lists of so many numbers from lowest to highest, in ascending order.
func allLists(length, lowest, highest int) [][]int {
	all := [][]int{nil}
	for range length {
		var longer [][]int
		for _, l := range all {
			for number := lowest; number <= highest; number++ {
				longer = append(longer, append(slices.Clone(l), number))
			}
		}
		all = longer
	}
	return all
}

// allTides returns all tides of n places, in ascending order.
func allTides(n int) [][]int {
	all := [][]int{nil}
	for range n {
		var longer [][]int
		for _, l := range all {
			for place := range n {
				if !slices.Contains(l, place) {
					longer = append(longer, append(slices.Clone(l), place))
				}
			}
		}
		all = longer
	}
	return all
}

// eachTide visits all tides, those of fewer places first.
func eachTide(visit func(tide []int)) {
	for n := 1; n <= wash.MaxPlaces; n++ {
		for _, tide := range allTides(n) {
			visit(tide)
		}
	}
}

// factorial returns how many tides of n places there are.
func factorial(n int) int {
	count := 1
	for number := range n {
		count *= number + 1
	}
	return count
}

// series is a row of numbers: always the same one for the same start.
type series uint32

// seriesOf returns the series that starts with a list.
func seriesOf(l []int) series {
	start := len(l)
	for _, number := range l {
		start = start*8 + number
	}
	return series(start)
}

func (s *series) below(n int) int {
	*s = *s*1664525 + 1013904223
	return int(*s>>16) % n
}

// tide returns a tide of n places.
func (s *series) tide(n int) []int {
	l := upTo(n)
	for i := range l {
		j := i + s.below(n-i)
		l[i], l[j] = l[j], l[i]
	}
	return l
}

// eachTwo visits all pairs of tides of so many places at most, those of fewer places first, and for each greater tide so
// many others with as many places.
func eachTwo(most, times int, visit func(a, b []int)) {
	for n := 1; n <= wash.MaxPlaces; n++ {
		all := allTides(n)
		for _, a := range all {
			if n <= most {
				for _, b := range all {
					visit(a, b)
				}
				continue
			}
			s := seriesOf(a)
			for range times {
				visit(a, s.tide(n))
			}
		}
	}
}

// triedThen asks of each place where it is carried from by both tides.
func triedThen(first, second []int) []int {
	var both []int
	for place := range first {
		both = append(both, second[first[place]])
	}
	return both
}

// triedUndone returns the tide by which things are where they were after a tide.
func triedUndone(tide []int) []int {
	var undone []int
	for place := range tide {
		undone = append(undone, slices.Index(tide, place))
	}
	return undone
}

// triedAfter carries things tide by tide.
func triedAfter(tide []int, tides int) []int {
	if tides < 0 {
		return triedAfter(triedUndone(tide), -tides)
	}
	after := upTo(len(tide))
	for range tides {
		after = triedThen(after, tide)
	}
	return after
}

// isRing returns whether places are a ring that is told from its smallest place on.
func isRing(tide, places []int) bool {
	for i, place := range places {
		next := places[(i+1)%len(places)]
		if tide[place] != next || slices.Contains(places[:i], place) || place < places[0] {
			return false
		}
	}
	return len(places) > 0
}

// allChoices returns all lists of different places below n, in ascending order.
func allChoices(n int) [][]int {
	all := [][]int{nil}
	for begin := 0; begin < len(all); begin++ {
		for place := range n {
			if !slices.Contains(all[begin], place) {
				all = append(all, append(slices.Clone(all[begin]), place))
			}
		}
	}
	slices.SortFunc(all, slices.Compare[[]int])
	return all
}

// countOf returns how many rings have so many places: how many places come back after so many tides, and not before.
func countOf(tide []int, length int) int {
	places := 0
	for place := range tide {
		tides := 1
		for at := tide[place]; at != place; at = tide[at] {
			tides++
		}
		if tides == length {
			places++
		}
	}
	return places / length
}

// triedLengths returns for each length, from 0 on, how many rings have it.
func triedLengths(tide []int) []int {
	counts := list(0)
	for length := 1; length <= wash.MaxPlaces; length++ {
		counts = append(counts, countOf(tide, length))
	}
	return counts
}

// key is a tide as what maps can be asked for.
type key [wash.MaxPlaces]int

// keyOf tells tides of as many places apart.
func keyOf(tide []int) key {
	k := key{0, 1, 2, 3, 4, 5, 6}
	copy(k[:], tide)
	return k
}

// triedHalves returns, for all tides of n places that have halves, all of these in ascending order.
func triedHalves(n int) map[key][][]int {
	halves := map[key][][]int{}
	for _, half := range allTides(n) {
		whole := keyOf(triedThen(half, half))
		halves[whole] = append(halves[whole], half)
	}
	return halves
}

// triedExchange goes from each place by both tides, in both orders.
func triedExchange(a, b []int) bool {
	for place := range a {
		if b[a[place]] != a[b[place]] {
			return false
		}
	}
	return true
}

// P13.1: what Check lets pass are the tides, and nothing else.
func TestCheckAsDefined(t *testing.T) {
	number := map[api.Errno]int{}
	for length := range 6 {
		for _, l := range allLists(length, -1, length) {
			want := api.OK
			for i, place := range l {
				if !slices.Contains(upTo(length), place) {
					want = api.ErrNone
					break
				}
				if slices.Contains(l[:i], place) {
					want = api.ErrTwice
					break
				}
			}
			if length == 0 {
				want = api.ErrRange
			}
			if e := wash.Check(l); e != want {
				t.Fatalf("Check(%v) = %d, want %d", l, e, want)
			}
			number[want]++
		}
	}
	if number[api.OK] != 1+2+6+24+120 || min(number[api.ErrNone], number[api.ErrTwice]) < 1000 {
		t.Errorf("lists by their error: %v", number)
	}
	eachTide(func(tide []int) {
		if e := wash.Check(tide); e != api.OK {
			t.Fatalf("Check(%v) = %d", tide, e)
		}
	})
}

// P13.1: After, for some numbers of tides, and for the greatest ones by P13.9: all is back after 420 tides.
func TestAfterAsDefined(t *testing.T) {
	check := func(tide []int, tides int, want []int) {
		t.Helper()
		if l, e := wash.After(tide, tides); !slices.Equal(l, want) || e != api.OK {
			t.Fatalf("After(%v, %d) = %v, %d, want %v", tide, tides, l, e, want)
		}
	}
	eachTide(func(tide []int) {
		if all := triedAfter(tide, 420); !slices.Equal(all, upTo(len(tide))) {
			t.Fatalf("after 420 tides %v is %v", tide, all)
		}
		for tides := -14; tides <= 14; tides++ {
			check(tide, tides, triedAfter(tide, tides))
		}
		for _, less := range list(0, 1, 5) {
			check(tide, wash.MaxTides-less, triedAfter(tide, (wash.MaxTides-less)%420))
			check(tide, less-wash.MaxTides, triedAfter(tide, -((wash.MaxTides-less)%420)))
		}
	})
}

// P13.2, M1: Rings are all lists that are rings, and nothing else.
func TestRingsAsDefined(t *testing.T) {
	for n := 1; n <= 5; n++ {
		choices := allChoices(n)
		for _, tide := range allTides(n) {
			want := slices.DeleteFunc(slices.Clone(choices), func(places []int) bool { return !isRing(tide, places) })
			if l, e := wash.Rings(tide); !equalLists(l, want) || e != api.OK {
				t.Fatalf("Rings(%v) = %v, %d, want %v", tide, l, e, want)
			}
		}
	}
	eachTide(func(tide []int) {
		rings, e := wash.Rings(tide)
		isNone := func(places []int) bool { return !isRing(tide, places) }
		places := slices.Concat(rings...)
		slices.Sort(places)
		if e != api.OK || slices.ContainsFunc(rings, isNone) || !slices.IsSortedFunc(rings, slices.Compare[[]int]) || !slices.Equal(places, upTo(len(tide))) {
			t.Fatalf("Rings(%v) = %v, %d", tide, rings, e)
		}
	})
}

// P13.2, M3: Back is the smallest number of tides after which all is back.
func TestBackAsDefined(t *testing.T) {
	number := map[int]int{}
	eachTide(func(tide []int) {
		want := 1
		for after := tide; !slices.Equal(after, upTo(len(tide))); after = triedThen(after, tide) {
			want++
		}
		if n, e := wash.Back(tide); n != want || e != api.OK {
			t.Fatalf("Back(%v) = %d, %d, want %d", tide, n, e, want)
		}
		number[want]++
	})
	if len(number) != 9 || min(number[7], number[10], number[12]) == 0 {
		t.Errorf("tides by when all is back: %v", number)
	}
}

// P13.2, M3: When, for all places and those beside them, is the smallest number of tides.
func TestWhenAsDefined(t *testing.T) {
	number := map[api.Errno]int{}
	eachTide(func(tide []int) {
		places := upTo(len(tide))
		var after [][]int
		for tides := range 13 {
			after = append(after, triedAfter(tide, tides))
		}
		for from := -1; from <= len(tide); from++ {
			for to := -1; to <= len(tide); to++ {
				want, wantError := 0, api.ErrNone
				if slices.Contains(places, from) && slices.Contains(places, to) {
					want, wantError = slices.IndexFunc(after, func(l []int) bool { return l[from] == to }), api.OK
				}
				if want < 0 {
					want, wantError = 0, api.ErrLost
				}
				if n, e := wash.When(tide, from, to); n != want || e != wantError {
					t.Fatalf("When(%v, %d, %d) = %d, %d, want %d, %d", tide, from, to, n, e, want, wantError)
				}
				number[wantError]++
			}
		}
	})
	if min(number[api.OK], number[api.ErrLost], number[api.ErrNone]) < 10000 {
		t.Errorf("places by their error: %v: too few", number)
	}
}

// P13.3: Then and Named; P13.6: Alike and Exchange.
func TestTwoAsDefined(t *testing.T) {
	number := map[string]int{}
	eachTwo(5, 40, func(a, b []int) {
		if l, e := wash.Then(a, b); !slices.Equal(l, triedThen(a, b)) || e != api.OK {
			t.Fatalf("Then(%v, %v) = %v, %d, want %v", a, b, l, e, triedThen(a, b))
		}
		named, e := wash.Named(a, b)
		if e != api.OK || len(named) != len(a) {
			t.Fatalf("Named(%v, %v) = %v, %d", a, b, named, e)
		}
		for p, q := range a {
			if named[b[p]] != b[q] {
				t.Fatalf("Named(%v, %v) = %v, but %d is carried to %d", a, b, named, p, q)
			}
		}
		alike, exchange := slices.Equal(triedLengths(a), triedLengths(b)), triedExchange(a, b)
		if is, e := wash.Alike(a, b); is != alike || e != api.OK {
			t.Fatalf("Alike(%v, %v) = %t, %d, want %t", a, b, is, e, alike)
		}
		if is, e := wash.Exchange(a, b); is != exchange || e != api.OK {
			t.Fatalf("Exchange(%v, %v) = %t, %d, want %t", a, b, is, e, exchange)
		}
		number["all"]++
		if alike {
			number["alike"]++
		}
		if exchange {
			number["exchange"]++
		}
	})
	if min(number["alike"], number["exchange"]) < 1000 || number["alike"]+number["exchange"] > number["all"] {
		t.Errorf("two tides: %v: too few", number)
	}
}

// P13.3: Odd.
func TestOddAsDefined(t *testing.T) {
	number := map[bool]int{}
	eachTide(func(tide []int) {
		rings := 0
		for length := 2; length <= wash.MaxPlaces; length += 2 {
			rings += countOf(tide, length)
		}
		want := rings%2 == 1
		if is, e := wash.Odd(tide); is != want || e != api.OK {
			t.Fatalf("Odd(%v) = %t, %d, want %t", tide, is, e, want)
		}
		number[want]++
	})
	// Of the tides of two and more places just half are odd.
	if number[true] != number[false]-1 {
		t.Errorf("tides by whether they are odd: %v", number)
	}
}

// P13.4, M1, M2, M3: Half is the first one of all halves, and Halves is how many there are.
func TestHalfAsDefined(t *testing.T) {
	number := map[int]int{}
	for n := 1; n <= wash.MaxPlaces; n++ {
		halves := triedHalves(n)
		for _, tide := range allTides(n) {
			all := halves[keyOf(tide)]
			var first []int
			lost := api.ErrLost
			if len(all) > 0 {
				first, lost = all[0], api.OK
			}
			if l, e := wash.Half(tide); !slices.Equal(l, first) || e != lost {
				t.Fatalf("Half(%v) = %v, %d, want %v, %d", tide, l, e, first, lost)
			}
			if count, e := wash.Halves(tide); count != len(all) || e != api.OK {
				t.Fatalf("Halves(%v) = %d, %d, want %d", tide, count, e, len(all))
			}
			number[len(all)]++
		}
	}
	if min(number[0], number[1], number[2], number[4]) < 100 {
		t.Errorf("tides by how many halves they have: %v: too few", number)
	}
}

// P13.5, M3, M4: Why, by all halves, and Proves, for all lengths and those beside them: no others are accepted.
func TestWhyAsDefined(t *testing.T) {
	number := map[api.Errno]int{}
	for n := 1; n <= wash.MaxPlaces; n++ {
		halves := triedHalves(n)
		for _, tide := range allTides(n) {
			want, wantError := 0, api.OK
			if len(halves[keyOf(tide)]) > 0 {
				wantError = api.ErrClash
			}
			for length := -1; length <= wash.MaxPlaces+2; length++ {
				proves := api.OK
				if length < 1 || length > 7 {
					proves = api.ErrRange
				} else if length%2 == 1 || countOf(tide, length)%2 == 0 {
					proves = api.ErrProof
				}
				if proves == api.OK && wantError == api.OK && want == 0 {
					want = length
				}
				if e := wash.Proves(tide, length); e != proves {
					t.Fatalf("Proves(%v, %d) = %d, want %d", tide, length, e, proves)
				}
				number[proves]++
			}
			if length, e := wash.Why(tide); length != want || e != wantError {
				t.Fatalf("Why(%v) = %d, %d, want %d, %d", tide, length, e, want, wantError)
			}
			number[wantError]++
		}
	}
	if min(number[api.OK], number[api.ErrProof], number[api.ErrRange], number[api.ErrClash]) < 1000 {
		t.Errorf("tides and lengths by their error: %v: too few", number)
	}
}

// P13.6, M2: Friends counts each tide that exchanges once.
func TestFriendsAsDefined(t *testing.T) {
	for n := 1; n <= wash.MaxPlaces; n++ {
		all := allTides(n)
		for _, tide := range all {
			want := 0
			for _, other := range all {
				if triedExchange(tide, other) {
					want++
				}
			}
			if count, e := wash.Friends(tide); count != want || e != api.OK {
				t.Fatalf("Friends(%v) = %d, %d, want %d", tide, count, e, want)
			}
		}
	}
}
