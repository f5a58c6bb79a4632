package wash_test

import (
	"slices"
	"testing"

	"bellarmine/api"
	"bellarmine/wash"
)

// In this file what the chapter says of the functions together is checked, for all tides that there are.

func afterOf(t *testing.T, tide []int, tides int) []int {
	t.Helper()
	l, e := wash.After(tide, tides)
	if e != api.OK {
		t.Fatalf("After(%v, %d): error %d", tide, tides, e)
	}
	return l
}

func ringsOf(t *testing.T, tide []int) [][]int {
	t.Helper()
	l, e := wash.Rings(tide)
	if e != api.OK {
		t.Fatalf("Rings(%v): error %d", tide, e)
	}
	return l
}

// numberOf asks one of the functions of a tide that return a number.
func numberOf(t *testing.T, ask func([]int) (int, api.Errno), tide []int) int {
	t.Helper()
	n, e := ask(tide)
	if e != api.OK {
		t.Fatalf("%v: error %d", tide, e)
	}
	return n
}

func backOf(t *testing.T, tide []int) int { t.Helper(); return numberOf(t, wash.Back, tide) }

func halvesOf(t *testing.T, tide []int) int { t.Helper(); return numberOf(t, wash.Halves, tide) }

func friendsOf(t *testing.T, tide []int) int { t.Helper(); return numberOf(t, wash.Friends, tide) }

func oddOf(t *testing.T, tide []int) bool {
	t.Helper()
	is, e := wash.Odd(tide)
	if e != api.OK {
		t.Fatalf("Odd(%v): error %d", tide, e)
	}
	return is
}

// halfOf returns the first half of a tide, and whether it has one.
func halfOf(t *testing.T, tide []int) ([]int, bool) {
	t.Helper()
	l, e := wash.Half(tide)
	if e != api.OK && e != api.ErrLost {
		t.Fatalf("Half(%v): error %d", tide, e)
	}
	return l, e == api.OK
}

// whyOf returns why a tide has no half, and whether there is a reason.
func whyOf(t *testing.T, tide []int) (int, bool) {
	t.Helper()
	length, e := wash.Why(tide)
	if e != api.OK && e != api.ErrClash {
		t.Fatalf("Why(%v): error %d", tide, e)
	}
	return length, e == api.OK
}

// whenOf returns when a thing comes to a place, and whether it does.
func whenOf(t *testing.T, tide []int, from, to int) (int, bool) {
	t.Helper()
	n, e := wash.When(tide, from, to)
	if e != api.OK && e != api.ErrLost {
		t.Fatalf("When(%v, %d, %d): error %d", tide, from, to, e)
	}
	return n, e == api.OK
}

// tideOf asks one of the functions of two tides that return a tide.
func tideOf(t *testing.T, ask func(a, b []int) ([]int, api.Errno), a, b []int) []int {
	t.Helper()
	l, e := ask(a, b)
	if e != api.OK {
		t.Fatalf("%v, %v: error %d", a, b, e)
	}
	return l
}

func thenOf(t *testing.T, first, second []int) []int {
	t.Helper()
	return tideOf(t, wash.Then, first, second)
}

func namedOf(t *testing.T, tide, names []int) []int {
	t.Helper()
	return tideOf(t, wash.Named, tide, names)
}

// truthOf asks one of the functions of two tides that return whether something is so.
func truthOf(t *testing.T, ask func(a, b []int) (bool, api.Errno), a, b []int) bool {
	t.Helper()
	is, e := ask(a, b)
	if e != api.OK {
		t.Fatalf("%v, %v: error %d", a, b, e)
	}
	return is
}

func alikeOf(t *testing.T, a, b []int) bool { t.Helper(); return truthOf(t, wash.Alike, a, b) }

func exchangeOf(t *testing.T, a, b []int) bool { t.Helper(); return truthOf(t, wash.Exchange, a, b) }

func proves(tide []int, length int) bool { return wash.Proves(tide, length) == api.OK }

// lengthsOf returns for each length, from 0 on, how many of some rings have it.
func lengthsOf(rings [][]int) []int {
	counts := make([]int, wash.MaxPlaces+1)
	for _, ring := range rings {
		counts[len(ring)]++
	}
	return counts
}

// P13.7, M1, M4: a tide has a half just if, for each even length, an even number of rings have it; then no reason is
// accepted, and otherwise the one that is returned, and no smaller one.
func TestHalvesAndReasons(t *testing.T) {
	number := map[bool]int{}
	eachTide(func(tide []int) {
		half, has := halfOf(t, tide)
		length, hasReason := whyOf(t, tide)
		counts := lengthsOf(ringsOf(t, tide))
		want := counts[2]%2 == 0 && counts[4]%2 == 0 && counts[6]%2 == 0
		if has != want || has == hasReason || has != (halvesOf(t, tide) > 0) {
			t.Fatalf("%v: Half %v %t, Why %d %t, %d halves, rings by their length %v", tide, half, has, length, hasReason, halvesOf(t, tide), counts)
		}
		for other := 1; other <= wash.MaxPlaces; other++ {
			if accepted := proves(tide, other); has && accepted || hasReason && (other < length && accepted || other == length && !accepted) {
				t.Fatalf("%v: Half %v %t, Why %d %t, but for %d accepted is %t", tide, half, has, length, hasReason, other, accepted)
			}
		}
		number[has]++
	})
	if min(number[true], number[false]) < 1000 {
		t.Errorf("tides by whether they have a half: %v: too few", number)
	}
}

// P13.7, M6: two halves, one after the other, are the whole; if Back is odd, the tide after half of one more is a half.
func TestHalvesAreHalves(t *testing.T) {
	number := 0
	eachTide(func(tide []int) {
		if half, has := halfOf(t, tide); has && !slices.Equal(thenOf(t, half, half), tide) {
			t.Fatalf("Half(%v) = %v", tide, half)
		}
		if back := backOf(t, tide); back%2 == 1 {
			half := afterOf(t, tide, (back+1)/2)
			if whole := thenOf(t, half, half); !slices.Equal(whole, tide) {
				t.Fatalf("after %d tides %v is %v, two times %v", (back+1)/2, tide, half, whole)
			}
			if first, has := halfOf(t, tide); !has || slices.Compare(first, half) > 0 {
				t.Fatalf("%v has the half %v, but Half is %v, %t", tide, half, first, has)
			}
			number++
		}
	})
	if number < 1000 {
		t.Errorf("only %d tides are back after an odd number of tides", number)
	}
}

// M3: no half of a tide is smaller than Half.
func TestFirstHalf(t *testing.T) {
	eachTide(func(half []int) {
		tide := thenOf(t, half, half)
		if first, has := halfOf(t, tide); !has || slices.Compare(first, half) > 0 {
			t.Fatalf("%v has the half %v, but Half is %v, %t", tide, half, first, has)
		}
	})
}

// P13.8, M2: all tides of n places together have as many halves as there are tides.
func TestSumOfHalves(t *testing.T) {
	for n := 1; n <= wash.MaxPlaces; n++ {
		sum := 0
		for _, tide := range allTides(n) {
			sum += halvesOf(t, tide)
		}
		if sum != factorial(n) {
			t.Errorf("all tides of %d places have %d halves", n, sum)
		}
	}
}

// pairings returns how many ways there are to put some rings into pairs, in so many ways for each pair, where some rings
// may stay alone or not.
func pairings(rings, each int, alone bool) int {
	if rings == 0 {
		return 1
	}
	ways := 0
	if alone {
		ways += pairings(rings-1, each, alone)
	}
	if rings > 1 {
		ways += (rings - 1) * each * pairings(rings-2, each, alone)
	}
	return ways
}

// P13.8, M2: Halves is a product over all lengths.
func TestProductOfHalves(t *testing.T) {
	eachTide(func(tide []int) {
		want := 1
		for length, rings := range lengthsOf(ringsOf(t, tide)) {
			want *= pairings(rings, length, length%2 == 1)
		}
		if n := halvesOf(t, tide); n != want {
			t.Fatalf("Halves(%v) = %d, want %d", tide, n, want)
		}
	})
}

// someTides are numbers of tides, the greatest ones too.
func someTides() []int {
	return list(0, 1, 2, 3, 5, 8, 11, 13, 59, 420, 1234567, wash.MaxTides/2, -1, -2, -4, -7, -12, -61, -419, -7654321, -wash.MaxTides/2)
}

// P13.9, M6: tides forward and back.
func TestForwardAndBack(t *testing.T) {
	eachTide(func(tide []int) {
		nothing := upTo(len(tide))
		for _, tides := range append(someTides(), wash.MaxTides, -wash.MaxTides) {
			after, before := afterOf(t, tide, tides), afterOf(t, tide, -tides)
			if !slices.Equal(thenOf(t, after, before), nothing) || !slices.Equal(afterOf(t, after, -1), before) {
				t.Fatalf("%v: after %d tides %v, before them %v", tide, tides, after, before)
			}
		}
		if !slices.Equal(afterOf(t, tide, 0), nothing) || !slices.Equal(afterOf(t, tide, 1), tide) {
			t.Fatalf("%v: after no tides %v, after one %v", tide, afterOf(t, tide, 0), afterOf(t, tide, 1))
		}
	})
}

// P13.9: some tides, and then others, are all of them together.
func TestTidesTogether(t *testing.T) {
	eachTide(func(tide []int) {
		some := someTides()
		if len(tide) > 5 {
			s := seriesOf(tide)
			some = list(some[s.below(len(some))], some[s.below(len(some))], 1+s.below(1000), wash.MaxTides/2-s.below(1000))
		}
		for _, k := range some {
			for _, l := range some {
				both := thenOf(t, afterOf(t, tide, k), afterOf(t, tide, l))
				if want := afterOf(t, tide, k+l); !slices.Equal(both, want) {
					t.Fatalf("%v: after %d tides and then after %d it is %v, after all of them %v", tide, k, l, both, want)
				}
			}
		}
	})
}

// P13.9: After is the same for numbers that differ by Back, and for no others.
func TestAfterAndBack(t *testing.T) {
	eachTide(func(tide []int) {
		back := backOf(t, tide)
		for _, tides := range list(0, 1, 2, 3, 7, 1000, -1, -5, -1000, wash.MaxTides-12, -wash.MaxTides) {
			want := afterOf(t, tide, tides)
			for more := 1; more <= back; more++ {
				if same := slices.Equal(afterOf(t, tide, tides+more), want); same != (more == back) {
					t.Fatalf("Back(%v) = %d, but after %d tides and after %d it is the same: %t", tide, back, tides, tides+more, same)
				}
			}
		}
	})
}

// P13.9, M2, M3: the sum of the places of all rings is n, each place is in one ring, and Back is the smallest number that
// all their lengths divide.
func TestRingsAndBack(t *testing.T) {
	eachTide(func(tide []int) {
		rings := ringsOf(t, tide)
		times := make([]int, len(tide))
		sum := 0
		for _, ring := range rings {
			sum += len(ring)
			for _, place := range ring {
				times[place]++
			}
		}
		if sum != len(tide) || slices.Max(times) != 1 || slices.Min(times) != 1 {
			t.Fatalf("Rings(%v) = %v", tide, rings)
		}
		back := backOf(t, tide)
		for number := 1; number <= back; number++ {
			dividesNot := func(ring []int) bool { return number%len(ring) != 0 }
			if all := !slices.ContainsFunc(rings, dividesNot); all != (number == back) {
				t.Fatalf("Back(%v) = %d, and all lengths of %v divide %d: %t", tide, back, rings, number, all)
			}
		}
	})
}

// M2, M6: the tide can be read from its rings, and When tells the way from each place of a ring to each other one.
func TestRingsAndWhen(t *testing.T) {
	eachTide(func(tide []int) {
		read := make([]int, len(tide))
		found := 0
		for _, ring := range ringsOf(t, tide) {
			for i, from := range ring {
				read[from] = ring[(i+1)%len(ring)]
				for j, to := range ring {
					n, comes := whenOf(t, tide, from, to)
					if want := (j - i + len(ring)) % len(ring); !comes || n != want || afterOf(t, tide, n)[from] != to {
						t.Fatalf("When(%v, %d, %d) = %d, %t, want %d", tide, from, to, n, comes, want)
					}
					found++
				}
			}
		}
		if !slices.Equal(read, tide) {
			t.Fatalf("Rings(%v) are those of %v", tide, read)
		}
		for from := range tide {
			for to := range tide {
				if _, comes := whenOf(t, tide, from, to); comes {
					found--
				}
			}
		}
		if found != 0 {
			t.Fatalf("When of %v leads from one ring to another one %d times", tide, -found)
		}
	})
}

// P13.10: two tides, one after the other, are odd just if one of both is; a tide that has a half is not odd.
func TestOddTides(t *testing.T) {
	eachTwo(5, 20, func(a, b []int) {
		both := thenOf(t, a, b)
		if oddOf(t, both) != (oddOf(t, a) != oddOf(t, b)) {
			t.Fatalf("odd: %v %t, %v %t, both %v %t", a, oddOf(t, a), b, oddOf(t, b), both, oddOf(t, both))
		}
	})
	eachTide(func(tide []int) {
		if half, has := halfOf(t, tide); has && oddOf(t, tide) {
			t.Fatalf("%v is odd, but has the half %v", tide, half)
		}
	})
}

// shapes returns a tide for each choice of lengths of n places, as the first one that is not alike to one before it.
func shapes(t *testing.T, n int) [][]int {
	t.Helper()
	var found [][]int
	for _, tide := range allTides(n) {
		if !slices.ContainsFunc(found, func(other []int) bool { return alikeOf(t, other, tide) }) {
			found = append(found, tide)
		}
	}
	return found
}

// P13.11, M5: two tides are alike just if one is the other one under some names; P13.12, M2: there are as many tides alike
// to a tide as there are tides, divided by Friends.
func TestAlikeUnderNames(t *testing.T) {
	want := list(1, 2, 3, 5, 7, 11, 15)
	for n := 1; n <= wash.MaxPlaces; n++ {
		all, some := allTides(n), shapes(t, n)
		if len(some) != want[n-1] {
			t.Errorf("%d tides of %d places, no two of them alike, want %d", len(some), n, want[n-1])
		}
		for _, tide := range some {
			under := map[key]bool{}
			for _, names := range all {
				under[keyOf(namedOf(t, tide, names))] = true
			}
			for _, other := range all {
				if is := under[keyOf(other)]; alikeOf(t, tide, other) != is || alikeOf(t, other, tide) != is {
					t.Fatalf("%v is %v under some names: %t", other, tide, is)
				}
			}
			if friends := friendsOf(t, tide); friends*len(under) != len(all) {
				t.Fatalf("%d of %d tides are alike to %v, but Friends is %d", len(under), len(all), tide, friends)
			}
		}
	}
}

// P13.12, M2: as many tides are alike to each tide as there are tides, divided by Friends.
func TestAlikeNumbers(t *testing.T) {
	for n := 1; n <= 6; n++ {
		all := allTides(n)
		for _, tide := range all {
			number := 0
			for _, other := range all {
				if alikeOf(t, tide, other) {
					number++
				}
			}
			if friends := friendsOf(t, tide); friends*number != len(all) {
				t.Fatalf("%d of %d tides are alike to %v, but Friends is %d", number, len(all), tide, friends)
			}
		}
	}
}

// ringsUnder returns rings under names, told anew.
func ringsUnder(rings [][]int, names []int) [][]int {
	var told [][]int
	for _, ring := range rings {
		var others []int
		for _, place := range ring {
			others = append(others, names[place])
		}
		begin := slices.Index(others, slices.Min(others))
		told = append(told, slices.Concat(others[begin:], others[:begin]))
	}
	slices.SortFunc(told, slices.Compare[[]int])
	return told
}

// P13.11, M5: what names do not change; M6: names that are taken back.
func TestNames(t *testing.T) {
	eachTwo(5, 20, func(tide, names []int) {
		other := namedOf(t, tide, names)
		if !alikeOf(t, tide, other) || oddOf(t, tide) != oddOf(t, other) || backOf(t, tide) != backOf(t, other) {
			t.Fatalf("%v is %v under the names %v: alike %t, odd %t and %t, back after %d and %d", tide, other, names, alikeOf(t, tide, other), oddOf(t, tide), oddOf(t, other), backOf(t, tide), backOf(t, other))
		}
		if halvesOf(t, tide) != halvesOf(t, other) || friendsOf(t, tide) != friendsOf(t, other) {
			t.Fatalf("%v is %v under the names %v: halves %d and %d, friends %d and %d", tide, other, names, halvesOf(t, tide), halvesOf(t, other), friendsOf(t, tide), friendsOf(t, other))
		}
		length, has := whyOf(t, tide)
		if otherLength, otherHas := whyOf(t, other); length != otherLength || has != otherHas {
			t.Fatalf("Why(%v) = %d, %t, under names Why(%v) = %d, %t", tide, length, has, other, otherLength, otherHas)
		}
		if want, got := ringsUnder(ringsOf(t, tide), names), ringsOf(t, other); !equalLists(got, want) {
			t.Fatalf("Rings(%v) = %v under the names %v, but Rings(%v) = %v", tide, want, names, other, got)
		}
		back := afterOf(t, names, -1)
		if again := namedOf(t, other, back); !slices.Equal(again, tide) {
			t.Fatalf("%v is %v under the names %v, and %v if they are taken back", tide, other, names, again)
		}
	})
}

// M5: what is asked of two tides is the same under names.
func TestNamesOfTwo(t *testing.T) {
	eachTwo(4, 10, func(tide, names []int) {
		other := namedOf(t, tide, names)
		for tides := -3; tides <= 4; tides++ {
			if want, got := namedOf(t, afterOf(t, tide, tides), names), afterOf(t, other, tides); !slices.Equal(got, want) {
				t.Fatalf("After(%v, %d) = %v, want %v", other, tides, got, want)
			}
		}
		for from, name := range names {
			for to, otherName := range names {
				n, comes := whenOf(t, tide, from, to)
				if m, is := whenOf(t, other, name, otherName); m != n || is != comes {
					t.Fatalf("When(%v, %d, %d) = %d, %t, want %d, %t", other, name, otherName, m, is, n, comes)
				}
			}
		}
		s := seriesOf(append(slices.Clone(tide), names...))
		second := s.tide(len(tide))
		otherSecond := namedOf(t, second, names)
		if want, got := namedOf(t, thenOf(t, tide, second), names), thenOf(t, other, otherSecond); !slices.Equal(got, want) {
			t.Fatalf("Then(%v, %v) = %v, want %v", other, otherSecond, got, want)
		}
		if exchangeOf(t, tide, second) != exchangeOf(t, other, otherSecond) || alikeOf(t, tide, second) != alikeOf(t, other, otherSecond) {
			t.Fatalf("%v and %v, %v and %v under names: not both exchange, or are alike", tide, second, other, otherSecond)
		}
	})
}

// P13.12, M2: Friends is a product over all lengths.
func TestProductOfFriends(t *testing.T) {
	eachTide(func(tide []int) {
		want := 1
		for length, rings := range lengthsOf(ringsOf(t, tide)) {
			for range rings {
				want *= length
			}
			want *= factorial(rings)
		}
		if n := friendsOf(t, tide); n != want {
			t.Fatalf("Friends(%v) = %d, want %d", tide, n, want)
		}
	})
}

// M1, M2: Friends counts the tides for which Exchange is true; these are those that are as they were under the other one
// as names, and the order of both does not matter.
func TestFriendsExchange(t *testing.T) {
	for n := 1; n <= 6; n++ {
		all := allTides(n)
		for i, tide := range all {
			if n == 6 && i%9 > 0 {
				continue
			}
			number := 0
			for _, other := range all {
				is := exchangeOf(t, tide, other)
				if is != exchangeOf(t, other, tide) || is != slices.Equal(namedOf(t, tide, other), tide) {
					t.Fatalf("%v and %v exchange: %t, the other way round %t", tide, other, is, exchangeOf(t, other, tide))
				}
				if is {
					number++
				}
			}
			if friends := friendsOf(t, tide); friends != number {
				t.Fatalf("%d tides exchange with %v, but Friends is %d", number, tide, friends)
			}
		}
	}
}

// M6: a half, and some tides of the same kind, exchange with the tide.
func TestSameKind(t *testing.T) {
	eachTide(func(tide []int) {
		for tides := -2; tides <= 3; tides++ {
			if after := afterOf(t, tide, tides); !exchangeOf(t, tide, after) {
				t.Fatalf("%v and %v do not exchange", tide, after)
			}
		}
		if half, has := halfOf(t, tide); has && !exchangeOf(t, half, tide) {
			t.Fatalf("%v and its half %v do not exchange", tide, half)
		}
	})
}
