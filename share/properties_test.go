package share_test

import (
	"slices"
	"testing"

	"bellarmine/api"
	"bellarmine/share"
)

func worthOf(t *testing.T, values [][]int, owners []int) [][]int {
	t.Helper()
	l, e := share.Worth(values, owners)
	if len(l) != len(values) || e != api.OK {
		t.Fatalf("Worth(%v, %v) = %v, %d", values, owners, l, e)
	}
	return l
}

func envyOf(t *testing.T, values [][]int, owners []int) [][2]int {
	t.Helper()
	l, e := share.Envy(values, owners)
	if e != api.OK {
		t.Fatalf("Envy(%v, %v) = %v, %d", values, owners, l, e)
	}
	return l
}

func fairOf(t *testing.T, values [][]int, owners []int) int {
	t.Helper()
	n, e := share.Fair(values, owners)
	if e != api.OK {
		t.Fatalf("Fair(%v, %v) = %d, %d", values, owners, n, e)
	}
	return n
}

func turnsOf(t *testing.T, values [][]int, order []int) []int {
	t.Helper()
	l, e := share.Turns(values, order)
	if len(l) != len(values[0]) || e != api.OK {
		t.Fatalf("Turns(%v, %v) = %v, %d", values, order, l, e)
	}
	return l
}

func ringsOf(t *testing.T, values [][]int) []int {
	t.Helper()
	l, e := share.Rings(values)
	if len(l) != len(values[0]) || e != api.OK {
		t.Fatalf("Rings(%v) = %v, %d", values, l, e)
	}
	return l
}

// freeOf returns the first fair division, and whether there is one.
func freeOf(t *testing.T, values [][]int) ([]int, bool) {
	t.Helper()
	l, e := share.Free(values)
	if e == api.ErrLost && len(l) == 0 {
		return nil, false
	}
	if len(l) != len(values[0]) || e != api.OK {
		t.Fatalf("Free(%v) = %v, %d", values, l, e)
	}
	return l, true
}

func countOf(t *testing.T, values [][]int) int {
	t.Helper()
	n, e := share.Count(values)
	if e != api.OK {
		t.Fatalf("Count(%v) = %d, %d", values, n, e)
	}
	return n
}

func mostOf(t *testing.T, values [][]int) []int {
	t.Helper()
	l, e := share.Most(values)
	if len(l) != len(values[0]) || e != api.OK {
		t.Fatalf("Most(%v) = %v, %d", values, l, e)
	}
	return l
}

// betterOf returns the first division that is better, and whether there is one.
func betterOf(t *testing.T, values [][]int, owners []int) ([]int, bool) {
	t.Helper()
	l, e := share.Better(values, owners)
	if e == api.ErrClash && len(l) == 0 {
		return nil, false
	}
	if len(l) != len(values[0]) || e != api.OK {
		t.Fatalf("Better(%v, %v) = %v, %d", values, owners, l, e)
	}
	return l, true
}

// ownOf returns what the own share is worth to each finder.
func ownOf(t *testing.T, values [][]int, owners []int) []int {
	t.Helper()
	var own []int
	for finder, worth := range worthOf(t, values, owners) {
		own = append(own, worth[finder])
	}
	return own
}

// total returns what all things are worth together.
func total(values []int) int { return sum(values, upTo(len(values))) }

// P7.8, M1: what Rings returns is fair but for one thing.
func TestRingsAreFair(t *testing.T) {
	eachValues(100, func(_ *series, values [][]int) {
		if owners := ringsOf(t, values); fairOf(t, values, owners) == 0 {
			t.Fatalf("Rings(%v) = %v: this is not fair but for one thing", values, owners)
		}
	})
}

// P7.8, M1: so is what Turns returns, and in it the first finder of the order envies nobody.
func TestTurnsAreFair(t *testing.T) {
	envied := 0
	eachValues(24, func(_ *series, values [][]int) {
		for _, order := range orders(len(values)) {
			owners := turnsOf(t, values, order)
			if fairOf(t, values, owners) == 0 {
				t.Fatalf("Turns(%v, %v) = %v: this is not fair but for one thing", values, order, owners)
			}
			for _, pair := range envyOf(t, values, owners) {
				if pair[0] == order[0] {
					t.Fatalf("Turns(%v, %v) = %v: %d envies %d", values, order, owners, pair[0], pair[1])
				}
				envied++
			}
		}
	})
	if envied < 5000 {
		t.Errorf("only %d times somebody envies another one", envied)
	}
}

// P7.9, M3: what Most returns is fair but for one thing, and no division is better.
func TestMostIsFair(t *testing.T) {
	eachValues(24, func(_ *series, values [][]int) {
		owners := mostOf(t, values)
		if fairOf(t, values, owners) == 0 {
			t.Fatalf("Most(%v) = %v: this is not fair but for one thing", values, owners)
		}
		if better, is := betterOf(t, values, owners); is {
			t.Fatalf("Most(%v) = %v, but %v is better", values, owners, better)
		}
	})
}

// P7.9, M3: no division has a greater product than Most, nor is any worth more to somebody, and less to nobody.
func TestNothingAboveMost(t *testing.T) {
	all := allDivisions()
	eachValues(2, func(_ *series, values [][]int) {
		owners := mostOf(t, values)
		own, greatest := ownOf(t, values, owners), triedGain(values, owners)
		for _, other := range all[shapeOf(values)] {
			if slices.Compare(triedGain(values, other), greatest) > 0 {
				t.Fatalf("Most(%v) = %v, but the product of %v is greater", values, owners, other)
			}
			others := ownOf(t, values, other)
			less := slices.ContainsFunc(upTo(len(own)), func(finder int) bool { return others[finder] < own[finder] })
			if !less && !slices.Equal(others, own) {
				t.Fatalf("Most(%v) = %v, but %v is better", values, owners, other)
			}
		}
	})
}

// P7.10, M2: in a fair division each finder's own share is worth enough; with two finders this suffices.
func TestFairShares(t *testing.T) {
	enough, unfair := 0, 0
	eachDivision(16, func(_ *series, values [][]int, owners []int) {
		fair, own := fairOf(t, values, owners) == 2, ownOf(t, values, owners)
		each := true
		for finder, worth := range own {
			each = each && worth*len(values) >= total(values[finder])
		}
		if fair && !each {
			t.Fatalf("%v, %v is fair, but worth no more than %v", values, owners, own)
		}
		if len(values) == 2 && each && !fair {
			t.Fatalf("%v, %v is not fair, but worth %v", values, owners, own)
		}
		if each && fair {
			enough++
		} else if each {
			unfair++
		}
	})
	if enough < 3000 || unfair < 100 {
		t.Errorf("shares are worth enough in %d fair divisions, and in %d others: too few", enough, unfair)
	}
}

// M2: all shares together are worth what all things are, whoever gets them.
func TestNothingIsLost(t *testing.T) {
	eachValues(12, func(s *series, values [][]int) {
		divisions := lists(ringsOf(t, values), turnsOf(t, values, s.order(len(values))), mostOf(t, values))
		if owners, is := freeOf(t, values); is {
			divisions = append(divisions, owners)
		}
		for _, owners := range divisions {
			for finder, worth := range worthOf(t, values, owners) {
				if total(worth) != total(values[finder]) {
					t.Fatalf("Worth(%v, %v) to %d = %v", values, owners, finder, worth)
				}
			}
		}
	})
}

// P7.6, M1, M2: Count is the number of divisions that Fair calls fair, and Free is the first one of them.
func TestFairOnesAreCounted(t *testing.T) {
	all := allDivisions()
	eachValues(2, func(_ *series, values [][]int) {
		var fair [][]int
		for _, owners := range all[shapeOf(values)] {
			if fairOf(t, values, owners) == 2 {
				fair = append(fair, owners)
			}
		}
		if n := countOf(t, values); n != len(fair) {
			t.Fatalf("Count(%v) = %d, but these are fair: %v", values, n, fair)
		}
		owners, is := freeOf(t, values)
		if is != (len(fair) > 0) || is && !slices.Equal(owners, fair[0]) {
			t.Fatalf("Free(%v) = %v, %t, but these are fair: %v", values, owners, is, fair)
		}
	})
}

// P7.3, M4: a division is fair but for one thing just if nothing proves the contrary, and what Why returns does.
func TestFairOrProof(t *testing.T) {
	eachDivision(16, func(_ *series, values [][]int, owners []int) {
		var accepted [][2]int
		for one := range values {
			for other := range values {
				if share.Proves(values, owners, one, other) == api.OK {
					accepted = append(accepted, [2]int{one, other})
				}
			}
		}
		fair, envy := fairOf(t, values, owners), envyOf(t, values, owners)
		if (fair > 0) != (len(accepted) == 0) || (fair == 2) != (len(envy) == 0) {
			t.Fatalf("Fair(%v, %v) = %d, but Envy = %v, and the proofs are %v", values, owners, fair, envy, accepted)
		}
		one, other, e := share.Why(values, owners)
		if fair > 0 != (e == api.ErrClash) || e == api.OK && accepted[0] != [2]int{one, other} {
			t.Fatalf("Why(%v, %v) = %d, %d, %d, but the proofs are %v", values, owners, one, other, e, accepted)
		}
		for _, pair := range accepted {
			if !slices.Contains(envy, pair) {
				t.Fatalf("%v, %v: %v is a proof, but Envy = %v", values, owners, pair, envy)
			}
		}
	})
}

// P7.11, M4: if a division is better, nobody gets less, so nobody who envied nobody does, and somebody gets more.
func TestNobodyGetsLess(t *testing.T) {
	calm := 0
	eachDivision(4, func(_ *series, values [][]int, owners []int) {
		better, is := betterOf(t, values, owners)
		if !is {
			return
		}
		before, after, envy := ownOf(t, values, owners), ownOf(t, values, better), envyOf(t, values, owners)
		for finder := range values {
			if after[finder] < before[finder] {
				t.Fatalf("Better(%v, %v) = %v: %d gets less", values, owners, better, finder)
			}
			if !slices.ContainsFunc(envy, func(pair [2]int) bool { return pair[0] == finder }) {
				calm++
			}
		}
		if total(after) <= total(before) {
			t.Fatalf("Better(%v, %v) = %v: nobody gets more", values, owners, better)
		}
	})
	if calm < 3000 {
		t.Errorf("only %d times somebody envied nobody before", calm)
	}
}

// P7.11, M4: no chain of divisions, each better than the one before, leads back; so each ends with one than which none
// is better.
func TestChainsEnd(t *testing.T) {
	long := 0
	eachDivision(2, func(_ *series, values [][]int, owners []int) {
		chain := lists(owners)
		for {
			better, is := betterOf(t, values, chain[len(chain)-1])
			if !is {
				break
			}
			if slices.ContainsFunc(chain, func(other []int) bool { return slices.Equal(other, better) }) {
				t.Fatalf("%v: %v leads back to %v", values, chain, better)
			}
			chain = append(chain, better)
		}
		if len(chain) > 3 {
			long++
		}
	})
	if long < 500 {
		t.Errorf("only %d chains of more than three divisions", long)
	}
}

// multiplied returns values of which all of one finder are multiplied.
func multiplied(values [][]int, finder, by int) [][]int {
	var l [][]int
	for _, numbers := range values {
		l = append(l, slices.Clone(numbers))
	}
	for thing := range l[finder] {
		l[finder][thing] *= by
	}
	return l
}

// eachMultiplied visits values, and the same of which all of one finder are multiplied.
func eachMultiplied(times int, visit func(s *series, values, other [][]int)) {
	eachValues(times, func(s *series, values [][]int) {
		for finder, numbers := range values {
			room := 3
			if len(numbers) > 0 && slices.Max(numbers) > 0 {
				room = share.MaxValue / slices.Max(numbers)
			}
			for by := 2; by <= min(room, 7); by++ {
				visit(s, values, multiplied(values, finder, by))
			}
		}
	})
}

// P7.12, M5: multiplied values change neither envy nor fairness.
func TestMultipliedEnvy(t *testing.T) {
	all := allDivisions()
	eachMultiplied(4, func(s *series, values, other [][]int) {
		for _, owners := range s.some(all[shapeOf(values)]) {
			if a, b := envyOf(t, values, owners), envyOf(t, other, owners); !slices.Equal(a, b) {
				t.Fatalf("Envy(%v, %v) = %v, but with %v it is %v", values, owners, a, other, b)
			}
			if a, b := fairOf(t, values, owners), fairOf(t, other, owners); a != b {
				t.Fatalf("Fair(%v, %v) = %d, but with %v it is %d", values, owners, a, other, b)
			}
		}
	})
}

// P7.12, M5: nor what Turns, Rings and Free return, nor Most if everybody has something.
func TestMultipliedDivisions(t *testing.T) {
	number := map[bool]int{}
	eachMultiplied(4, func(s *series, values, other [][]int) {
		order := s.order(len(values))
		if a, b := turnsOf(t, values, order), turnsOf(t, other, order); !slices.Equal(a, b) {
			t.Fatalf("Turns(%v, %v) = %v, but with %v it is %v", values, order, a, other, b)
		}
		if a, b := ringsOf(t, values), ringsOf(t, other); !slices.Equal(a, b) {
			t.Fatalf("Rings(%v) = %v, but with %v it is %v", values, a, other, b)
		}
		a, isA := freeOf(t, values)
		b, isB := freeOf(t, other)
		if isA != isB || !slices.Equal(a, b) {
			t.Fatalf("Free(%v) = %v, %t, but with %v it is %v, %t", values, a, isA, other, b, isB)
		}
		most := mostOf(t, values)
		everybody := slices.Min(ownOf(t, values, most)) > 0
		if after := mostOf(t, other); everybody && !slices.Equal(most, after) {
			t.Fatalf("Most(%v) = %v, but with %v it is %v", values, most, other, after)
		}
		number[everybody]++
	})
	if number[true] < 1000 {
		t.Errorf("everybody has something only %d times", number[true])
	}
}

// renumbered returns values of finders who have other numbers.
func renumbered(values [][]int, numbers []int) [][]int {
	l := make([][]int, len(values))
	for finder, number := range numbers {
		l[number] = values[finder]
	}
	return l
}

// translated returns the new numbers of old ones.
func translated(old, numbers []int) []int {
	var l []int
	for _, number := range old {
		l = append(l, numbers[number])
	}
	return l
}

// moved returns a list whose elements are at other places.
func moved(l, places []int) []int {
	other := make([]int, len(l))
	for i, place := range places {
		other[place] = l[i]
	}
	return other
}

// translatedPairs returns, in ascending order, the new numbers of pairs of old ones.
func translatedPairs(old [][2]int, numbers []int) [][2]int {
	var l [][2]int
	for _, pair := range old {
		l = append(l, [2]int{numbers[pair[0]], numbers[pair[1]]})
	}
	slices.SortFunc(l, func(a, b [2]int) int { return slices.Compare(a[:], b[:]) })
	return l
}

// P7.12, M5: if finders get other numbers, Count stays, and so does whether there is a fair division, and how great the
// greatest product is.
func TestFindersRenumbered(t *testing.T) {
	eachValues(6, func(s *series, values [][]int) {
		numbers := s.order(len(values))
		other := renumbered(values, numbers)
		if a, b := countOf(t, values), countOf(t, other); a != b {
			t.Fatalf("Count(%v) = %d, but with %v it is %d", values, a, other, b)
		}
		if _, a := freeOf(t, values); a != (countOf(t, other) > 0) {
			t.Fatalf("Free(%v) finds one: %t, but Count(%v) = %d", values, a, other, countOf(t, other))
		}
		if a, b := triedGain(values, mostOf(t, values)), triedGain(other, mostOf(t, other)); !slices.Equal(a, b) {
			t.Fatalf("the gain of Most(%v) is %v, but with %v it is %v", values, a, other, b)
		}
		order := s.order(len(values))
		want := translated(turnsOf(t, values, order), numbers)
		if l := turnsOf(t, other, translated(order, numbers)); !slices.Equal(l, want) {
			t.Fatalf("Turns(%v, %v) = %v, want %v", other, translated(order, numbers), l, want)
		}
	})
}

// M5: if finders get other numbers, those envy who envied before.
func TestEnvyRenumbered(t *testing.T) {
	eachDivision(4, func(s *series, values [][]int, owners []int) {
		numbers := s.order(len(values))
		other, others := renumbered(values, numbers), translated(owners, numbers)
		want := translatedPairs(envyOf(t, values, owners), numbers)
		if l := envyOf(t, other, others); !slices.Equal(l, want) {
			t.Fatalf("Envy(%v, %v) = %v, want %v", other, others, l, want)
		}
		if a, b := fairOf(t, values, owners), fairOf(t, other, others); a != b {
			t.Fatalf("Fair(%v, %v) = %d, but of %v, %v it is %d", values, owners, a, other, others, b)
		}
		_, a := betterOf(t, values, owners)
		if _, b := betterOf(t, other, others); a != b {
			t.Fatalf("Better(%v, %v) finds one: %t, but of %v, %v: %t", values, owners, a, other, others, b)
		}
		one, two := s.below(len(values)), s.below(len(values))
		if a, b := share.Proves(values, owners, one, two), share.Proves(other, others, numbers[one], numbers[two]); a != b {
			t.Fatalf("Proves(%v, %v, %d, %d) = %d, but with the numbers %v it is %d", values, owners, one, two, a, numbers, b)
		}
	})
}

// M5: things come in another order. Who envies whom does not depend on it.
func TestThingsMoved(t *testing.T) {
	eachDivision(4, func(s *series, values [][]int, owners []int) {
		places := s.order(len(owners))
		var other [][]int
		for _, numbers := range values {
			other = append(other, moved(numbers, places))
		}
		others := moved(owners, places)
		if a, b := worthOf(t, values, owners), worthOf(t, other, others); !sameLists(a, b) {
			t.Fatalf("Worth(%v, %v) = %v, but of %v, %v it is %v", values, owners, a, other, others, b)
		}
		if a, b := envyOf(t, values, owners), envyOf(t, other, others); !slices.Equal(a, b) {
			t.Fatalf("Envy(%v, %v) = %v, but of %v, %v it is %v", values, owners, a, other, others, b)
		}
		oneA, otherA, a := share.Why(values, owners)
		oneB, otherB, b := share.Why(other, others)
		if oneA != oneB || otherA != otherB || a != b {
			t.Fatalf("Why(%v, %v) = %d, %d, %d, but of %v, %v it is %d, %d, %d", values, owners, oneA, otherA, a, other, others, oneB, otherB, b)
		}
	})
	eachValues(4, func(s *series, values [][]int) {
		places := s.order(len(values[0]))
		var other [][]int
		for _, numbers := range values {
			other = append(other, moved(numbers, places))
		}
		if a, b := countOf(t, values), countOf(t, other); a != b {
			t.Fatalf("Count(%v) = %d, but of %v it is %d", values, a, other, b)
		}
		if a, b := triedGain(values, mostOf(t, values)), triedGain(other, mostOf(t, other)); !slices.Equal(a, b) {
			t.Fatalf("the gain of Most(%v) is %v, but of %v it is %v", values, a, other, b)
		}
	})
}

// M6: if things are worth 1, 2, 4, 8 and 16, who has them can be read from what the shares are worth.
func TestReadFromWorth(t *testing.T) {
	all := allDivisions()
	for finders := 1; finders <= share.MaxFinders; finders++ {
		values := slices.Repeat(lists(list(1, 2, 4, 8, 16)), finders)
		for _, owners := range all[shape{finders, 5}] {
			var read []int
			worth := worthOf(t, values, owners)
			for thing := range owners {
				read = append(read, slices.IndexFunc(upTo(finders), func(finder int) bool { return worth[0][finder]>>thing&1 == 1 }))
			}
			if !slices.Equal(read, owners) {
				t.Fatalf("Worth(%v, %v) = %v: read as %v", values, owners, worth, read)
			}
		}
	}
}

// M6: if each finder gives the share to the next one, as often as there are finders, all is as it was; and each time the
// shares are worth what they were, to whoever has them.
func TestTurnedAllAround(t *testing.T) {
	eachDivision(4, func(_ *series, values [][]int, owners []int) {
		n := len(values)
		next := append(upTo(n)[1:], 0)
		first := worthOf(t, values, owners)
		around := owners
		for turns := 1; turns <= n; turns++ {
			around = translated(around, next)
			for finder, worth := range worthOf(t, values, around) {
				for owner := range n {
					if worth[(owner+turns)%n] != first[finder][owner] {
						t.Fatalf("%v, %v: Worth = %v, but turned %d times it is %v", values, owners, first, turns, worthOf(t, values, around))
					}
				}
			}
		}
		if a, b := envyOf(t, values, owners), envyOf(t, values, around); !slices.Equal(a, b) {
			t.Fatalf("Envy(%v, %v) = %v, but turned all around it is %v", values, owners, a, b)
		}
	})
}

// P7.13: if all finders have the same values, shares have only to be held against one another.
func TestAlike(t *testing.T) {
	number := map[bool]int{}
	eachDivision(16, func(_ *series, values [][]int, owners []int) {
		alike := slices.Repeat(values[:1], len(values))
		shares := sharesOf(len(values), owners)
		near := true
		for _, a := range shares {
			for _, b := range shares {
				if sum(values[0], a) > sum(values[0], b) {
					greatest := slices.MaxFunc(a, func(x, y int) int { return values[0][x] - values[0][y] })
					near = near && sum(values[0], without(a, slices.Index(a, greatest))) <= sum(values[0], b)
				}
			}
		}
		if fair := fairOf(t, alike, owners); (fair > 0) != near {
			t.Fatalf("Fair(%v, %v) = %d, but no share is too great: %t", alike, owners, fair, near)
		}
		number[near]++
	})
	if min(number[true], number[false]) < 3000 {
		t.Errorf("divisions by whether a share is too great: %v: too few", number)
	}
}

// withThing returns values with a thing more.
func withThing(values [][]int, place int, worths []int) [][]int {
	var l [][]int
	for finder, numbers := range values {
		l = append(l, slices.Insert(slices.Clone(numbers), place, worths[finder]))
	}
	return l
}

// P7.13, M7: a thing more that is worth nothing to all leaves all fair divisions fair, whoever gets it; there are no
// others.
func TestWorthlessThing(t *testing.T) {
	fair := 0
	eachDivision(4, func(s *series, values [][]int, owners []int) {
		if len(owners) == share.MaxThings {
			return
		}
		place := s.below(len(owners) + 1)
		more := withThing(values, place, make([]int, len(values)))
		before := fairOf(t, values, owners)
		for finder := range values {
			others := slices.Insert(slices.Clone(owners), place, finder)
			if after := fairOf(t, more, others); (before == 2) != (after == 2) {
				t.Fatalf("Fair(%v, %v) = %d, but of %v, %v it is %d", values, owners, before, more, others, after)
			}
		}
		if before == 2 {
			fair++
		}
	})
	if fair < 3000 {
		t.Errorf("only %d fair divisions", fair)
	}
	eachValues(2, func(s *series, values [][]int) {
		if len(values[0]) == share.MaxThings {
			return
		}
		more := withThing(values, s.below(len(values[0])+1), make([]int, len(values)))
		if a, b := countOf(t, values), countOf(t, more); a*len(values) != b {
			t.Fatalf("Count(%v) = %d, but of %v it is %d", values, a, more, b)
		}
	})
}

// M7: a thing more that is worth something makes the product of Most no smaller, and that no fewer finders have something.
func TestThingMore(t *testing.T) {
	greater := 0
	eachValues(8, func(s *series, values [][]int) {
		if len(values[0]) == share.MaxThings {
			return
		}
		var worths []int
		for range values {
			worths = append(worths, s.below(share.MaxValue+1))
		}
		more := withThing(values, s.below(len(values[0])+1), worths)
		a, b := triedGain(values, mostOf(t, values)), triedGain(more, mostOf(t, more))
		if slices.Compare(b, a) < 0 {
			t.Fatalf("the gain of Most(%v) is %v, but of %v it is %v", values, a, more, b)
		}
		greater += slices.Compare(b, a)
	})
	if greater < 500 {
		t.Errorf("only %d times a thing more gained something", greater)
	}
}

// worthing returns values of which one is another one.
func worthing(values [][]int, finder, thing, value int) [][]int {
	l := slices.Clone(values)
	l[finder] = slices.Clone(l[finder])
	l[finder][thing] = value
	return l
}

// allIn returns whether all pairs are among others.
func allIn(some, all [][2]int) bool {
	return !slices.ContainsFunc(some, func(pair [2]int) bool { return !slices.Contains(all, pair) })
}

// M7: if an own thing is worth more, or another one's thing is worth less, nobody envies who did not before, and the
// division is no less fair.
func TestValuesForAShare(t *testing.T) {
	less := 0
	eachDivision(4, func(s *series, values [][]int, owners []int) {
		envy, fair := envyOf(t, values, owners), fairOf(t, values, owners)
		for thing, owner := range owners {
			finder := s.below(len(values))
			value := values[finder][thing]
			if finder == owner {
				value += s.below(share.MaxValue + 1 - value)
			} else {
				value = s.below(value + 1)
			}
			other := worthing(values, finder, thing, value)
			after := envyOf(t, other, owners)
			if !allIn(after, envy) {
				t.Fatalf("Envy(%v, %v) = %v, but with %v it is %v", values, owners, envy, other, after)
			}
			if n := fairOf(t, other, owners); n < fair {
				t.Fatalf("Fair(%v, %v) = %d, but with %v it is %d", values, owners, fair, other, n)
			}
			less += len(envy) - len(after)
		}
	})
	if less < 500 {
		t.Errorf("only %d times somebody did not envy any more", less)
	}
}

// M7: if something is worth more, the product of Most is no smaller, and no fewer finders have something.
func TestValueMore(t *testing.T) {
	greater := 0
	eachValues(8, func(s *series, values [][]int) {
		if len(values[0]) == 0 {
			return
		}
		finder, thing := s.below(len(values)), s.below(len(values[0]))
		value := values[finder][thing]
		more := worthing(values, finder, thing, value+s.below(share.MaxValue+1-value))
		a, b := triedGain(values, mostOf(t, values)), triedGain(more, mostOf(t, more))
		if slices.Compare(b, a) < 0 {
			t.Fatalf("the gain of Most(%v) is %v, but of %v it is %v", values, a, more, b)
		}
		greater += slices.Compare(b, a)
	})
	if greater < 300 {
		t.Errorf("only %d times a greater value gained something", greater)
	}
}
