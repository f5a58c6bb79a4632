package walk_test

import (
	"slices"
	"testing"

	"bellarmine/api"
	"bellarmine/walk"
)

func weightOf(t *testing.T, tides []int) (above, below int) {
	t.Helper()
	above, below, e := walk.Weight(tides)
	if above <= 0 || below <= 0 || e != api.OK {
		t.Fatalf("Weight(%v) = %d, %d, %d", tides, above, below, e)
	}
	return above, below
}

func canOf(t *testing.T, tides []int) bool {
	t.Helper()
	is, e := walk.Can(tides)
	if e != api.OK {
		t.Fatalf("Can(%v) = %t, %d", tides, is, e)
	}
	return is
}

// endless stands for the length of a walk that can go on for ever.
const endless = 1000

// longestOf returns how many tides the longest good walk has.
func longestOf(t *testing.T, tides []int) int {
	t.Helper()
	n, e := walk.Longest(tides)
	if e == api.ErrClash && n == 0 {
		return endless
	}
	if e != api.OK {
		t.Fatalf("Longest(%v) = %d, %d", tides, n, e)
	}
	return n
}

// leftOf returns what is left after a walk, and whether the walk is good.
func leftOf(t *testing.T, tides, tried []int) ([]int, bool) {
	t.Helper()
	l, e := walk.Left(tides, tried)
	if e == api.ErrLost && len(l) == 0 {
		return nil, false
	}
	if len(l) != len(tides) || e != api.OK {
		t.Fatalf("Left(%v, %v) = %v, %d", tides, tried, l, e)
	}
	return l, true
}

// goesOf returns whether a walk is good and can go on for ever.
func goesOf(t *testing.T, tides, tried []int) bool {
	t.Helper()
	is, e := walk.Goes(tides, tried)
	if e != api.OK && (is || e != api.ErrLost) {
		t.Fatalf("Goes(%v, %v) = %t, %d", tides, tried, is, e)
	}
	return is
}

// walkOf returns so many tides of the first walk that can go on for ever.
func walkOf(t *testing.T, tides []int, many int) []int {
	t.Helper()
	l, e := walk.Walk(tides, many)
	if len(l) != many || e != api.OK {
		t.Fatalf("Walk(%v, %d) = %v, %d", tides, many, l, e)
	}
	return l
}

func loopOf(t *testing.T, tides []int) (begin, loop []int) {
	t.Helper()
	begin, loop, e := walk.Loop(tides)
	if len(loop) == 0 || e != api.OK {
		t.Fatalf("Loop(%v) = %v, %v, %d", tides, begin, loop, e)
	}
	return begin, loop
}

// meetsOf returns whether a plan meets all.
func meetsOf(t *testing.T, tides, plan []int) bool {
	t.Helper()
	e := walk.Meets(tides, plan)
	if e != api.OK && e != api.ErrProof {
		t.Fatalf("Meets(%v, %v) = %d", tides, plan, e)
	}
	return e == api.OK
}

func groupsOf(t *testing.T, tides []int) []int {
	t.Helper()
	l, e := walk.Groups(tides)
	if len(l) != len(tides) || e != api.OK {
		t.Fatalf("Groups(%v) = %v, %d", tides, l, e)
	}
	return l
}

// inspectorsOf returns how many inspectors divide the stretches.
func inspectorsOf(t *testing.T, tides []int) int {
	t.Helper()
	return slices.Max(groupsOf(t, tides)) + 1
}

// with returns a list of which one number is another one.
func with(l []int, place, number int) []int {
	other := slices.Clone(l)
	other[place] = number
	return other
}

// without returns a list without one of its places.
func without(l []int, place int) []int { return slices.Delete(slices.Clone(l), place, place+1) }

// translated returns the new numbers of old ones.
func translated(old, numbers []int) []int {
	var l []int
	for _, number := range old {
		l = append(l, numbers[number])
	}
	return l
}

// P8.8, M4: weights above 1 are a reason why no walk goes on for ever, and those up to five sixths why one does.
func TestFiveSixths(t *testing.T) {
	number := map[bool]int{}
	eachTides(func(_ *series, tides []int) {
		above, below := weightOf(t, tides)
		is := canOf(t, tides)
		if is && above > below {
			t.Fatalf("Can(%v) = true, but it weighs %d / %d", tides, above, below)
		}
		if !is && above*6 <= below*5 {
			t.Fatalf("Can(%v) = false, but it weighs %d / %d", tides, above, below)
		}
		if above <= below && above*6 > below*5 {
			number[is]++
		}
	})
	if min(number[true], number[false]) < 100 {
		t.Errorf("weights between five sixths and 1, by whether a walk can go on for ever: %v: too few", number)
	}
}

// P8.9.
func TestDivideOneAnother(t *testing.T) {
	number := map[bool]int{}
	eachTides(func(_ *series, tides []int) {
		for _, a := range tides {
			for _, b := range tides {
				if max(a, b)%min(a, b) != 0 {
					return
				}
			}
		}
		above, below := weightOf(t, tides)
		is := canOf(t, tides)
		if is != (above <= below) {
			t.Fatalf("Can(%v) = %t, but it weighs %d / %d", tides, is, above, below)
		}
		number[is]++
	})
	if min(number[true], number[false]) < 50 {
		t.Errorf("numbers that divide one another by whether a walk can go on for ever: %v: too few", number)
	}
}

// P8.1, M2: each stretch weighs one by its number, and is counted once; no number above 1 divides both parts.
func TestWeightIsASum(t *testing.T) {
	eachTides(func(_ *series, tides []int) {
		above, below := weightOf(t, tides)
		// 840 is divided by all numbers up to 8.
		sum := 0
		for _, number := range tides {
			sum += 840 / number
		}
		if above*840 != sum*below {
			t.Fatalf("Weight(%v) = %d, %d, want %d / 840", tides, above, below, sum)
		}
		for number := 2; number <= min(above, below); number++ {
			if above%number == 0 && below%number == 0 {
				t.Fatalf("Weight(%v) = %d, %d: %d divides both", tides, above, below, number)
			}
		}
	})
}

// P8.10, M1, M4: the loop meets all, and what is left after it is what was left before.
func TestLoopMeetsAll(t *testing.T) {
	long := 0
	eachTides(func(_ *series, tides []int) {
		if !canOf(t, tides) {
			return
		}
		begin, loop := loopOf(t, tides)
		if len(loop) > walk.MaxPlan {
			long++
		} else if !meetsOf(t, tides, loop) {
			t.Fatalf("Loop(%v) = %v, %v: the loop does not meet all", tides, begin, loop)
		}
		if len(begin)+len(loop) > walk.MaxPlan {
			return
		}
		before, _ := leftOf(t, tides, begin)
		after, _ := leftOf(t, tides, slices.Concat(begin, loop))
		if !slices.Equal(before, after) {
			t.Fatalf("Loop(%v) = %v, %v: %v is left before it, and %v after it", tides, begin, loop, before, after)
		}
	})
	if long == 0 {
		t.Error("no loop is longer than a plan")
	}
}

// P8.10, M2: begin and the loop repeated are the first walk: no tide is lost, and none is counted twice.
func TestLoopIsTheWalk(t *testing.T) {
	eachTides(func(_ *series, tides []int) {
		if !canOf(t, tides) {
			return
		}
		begin, loop := loopOf(t, tides)
		all := slices.Concat(begin, slices.Repeat(loop, walk.MaxPlan))
		for _, many := range list(0, 1, 2, 3, 7, 20, 59, 60) {
			if l := walkOf(t, tides, many); !slices.Equal(l, all[:many]) {
				t.Fatalf("Walk(%v, %d) = %v, but Loop = %v, %v", tides, many, l, begin, loop)
			}
		}
	})
}

// P8.5: before the loop ends, nothing is left that was left before.
func TestLoopIsTheFirst(t *testing.T) {
	eachTides(func(_ *series, tides []int) {
		if !canOf(t, tides) {
			return
		}
		begin, loop := loopOf(t, tides)
		all := slices.Concat(begin, loop)
		seen := map[string]bool{}
		for tide := range min(len(all), walk.MaxPlan+1) {
			left, _ := leftOf(t, tides, all[:tide])
			var key []byte
			for _, number := range left {
				key = append(key, byte(number))
			}
			if seen[string(key)] {
				t.Fatalf("Loop(%v) = %v, %v, but what is left after %d tides was left before", tides, begin, loop, tide)
			}
			seen[string(key)] = true
		}
	})
}

// P8.4, M3: with a smaller stretch at any tide the first walk could not go on for ever; as it is, it can.
func TestNothingBeforeWalk(t *testing.T) {
	smaller := 0
	eachTides(func(_ *series, tides []int) {
		if !canOf(t, tides) {
			return
		}
		l := walkOf(t, tides, walk.MaxPlan)
		for tide, stretch := range l {
			if !goesOf(t, tides, l[:tide+1]) {
				t.Fatalf("Walk(%v, 60) = %v cannot go on for ever after %d tides", tides, l, tide+1)
			}
			for before := range stretch {
				if goesOf(t, tides, with(l[:tide+1], tide, before)) {
					t.Fatalf("Walk(%v, 60) = %v, but it can go on for ever with %d instead of %d after %d tides", tides, l, before, stretch, tide)
				}
				smaller++
			}
		}
	})
	if smaller < 10000 {
		t.Errorf("only %d smaller stretches", smaller)
	}
}

// P8.2, P8.3, M3: a walk without tides can go on for ever just if Can is true; if it cannot, Longest is the length of the
// longest of all walks that Left takes.
func TestNothingLonger(t *testing.T) {
	for _, tides := range slices.Concat(allTides(1, 8), allTides(2, 8), allTides(3, 6), allTides(4, 4)) {
		longest := longestOf(t, tides)
		if is := canOf(t, tides); is != (longest == endless) || is != goesOf(t, tides, nil) {
			t.Fatalf("Can(%v) = %t, but Goes without tides %t, and Longest %d", tides, is, goesOf(t, tides, nil), longest)
		}
		if longest == endless {
			continue
		}
		good := lists(nil)
		for tide := 0; len(good) > 0; tide++ {
			var longer [][]int
			for _, l := range good {
				for stretch := range tides {
					other := append(slices.Clone(l), stretch)
					if _, is := leftOf(t, tides, other); is {
						longer = append(longer, other)
					}
				}
			}
			if (len(longer) == 0) != (tide == longest) {
				t.Fatalf("Longest(%v) = %d, but there are %d good walks of %d tides", tides, longest, len(longer), tide+1)
			}
			good = longer
		}
	}
}

// P8.3, M1: a walk can go on for ever just if it can with one of the stretches at the next tide.
func TestGoesOn(t *testing.T) {
	number := map[bool]int{}
	eachTides(func(s *series, tides []int) {
		l := s.someWalk(t, tides)
		for many := range len(l) {
			is := goesOf(t, tides, l[:many])
			on := slices.ContainsFunc(upTo(len(tides)), func(stretch int) bool { return goesOf(t, tides, append(slices.Clone(l[:many]), stretch)) })
			if is != on {
				t.Fatalf("Goes(%v, %v) = %t, but with a tide more %t", tides, l[:many], is, on)
			}
			number[is]++
		}
	})
	if min(number[true], number[false]) < 3000 {
		t.Errorf("walks by whether they can go on for ever: %v: too few", number)
	}
}

// someWalk returns a walk of at most 30 tides that is good before its last tide, and goes on long if the series likes it.
func (s *series) someWalk(t *testing.T, tides []int) []int {
	t.Helper()
	var l []int
	for len(l) < 30 {
		left, is := leftOf(t, tides, l)
		if !is {
			break
		}
		stretch := s.below(len(tides))
		if s.below(8) > 0 {
			stretch = slices.Index(left, slices.Min(left))
		}
		l = append(l, stretch)
	}
	return l
}

// P8.11, M5: if stretches get other numbers, Can, Longest and Weight stay, and there are as many inspectors.
func TestStretchesRenumbered(t *testing.T) {
	eachTides(func(s *series, tides []int) {
		numbers := s.order(len(tides))
		other := moved(tides, numbers)
		if a, b := canOf(t, tides), canOf(t, other); a != b {
			t.Fatalf("Can(%v) = %t, but of %v it is %t", tides, a, other, b)
		}
		if a, b := longestOf(t, tides), longestOf(t, other); a != b {
			t.Fatalf("Longest(%v) = %d, but of %v it is %d", tides, a, other, b)
		}
		aboveA, belowA := weightOf(t, tides)
		aboveB, belowB := weightOf(t, other)
		if aboveA != aboveB || belowA != belowB {
			t.Fatalf("Weight(%v) = %d, %d, but of %v it is %d, %d", tides, aboveA, belowA, other, aboveB, belowB)
		}
		if a, b := inspectorsOf(t, tides), inspectorsOf(t, other); a != b {
			t.Fatalf("%v is for %d inspectors, but %v for %d", tides, a, other, b)
		}
	})
}

// M5: nor does it matter for walks and plans.
func TestWalksRenumbered(t *testing.T) {
	eachTides(func(s *series, tides []int) {
		numbers := s.order(len(tides))
		other := moved(tides, numbers)
		l := s.someWalk(t, tides)
		for _, tried := range lists(l, l[:s.below(len(l)+1)]) {
			others := translated(tried, numbers)
			leftA, isA := leftOf(t, tides, tried)
			leftB, isB := leftOf(t, other, others)
			if isA != isB || isA && !slices.Equal(moved(leftA, numbers), leftB) {
				t.Fatalf("Left(%v, %v) = %v, but of %v, %v it is %v", tides, tried, leftA, other, others, leftB)
			}
			if a, b := goesOf(t, tides, tried), goesOf(t, other, others); a != b {
				t.Fatalf("Goes(%v, %v) = %t, but of %v, %v it is %t", tides, tried, a, other, others, b)
			}
		}
		for _, plan := range s.somePlans(tides, 3) {
			others := translated(plan, numbers)
			if a, b := meetsOf(t, tides, plan), meetsOf(t, other, others); a != b {
				t.Fatalf("Meets(%v, %v) is %t, but of %v, %v it is %t", tides, plan, a, other, others, b)
			}
		}
	})
}

// P8.12, M7: if a number becomes greater, what can go on for ever still can, and what meets all still does.
func TestNumberGreater(t *testing.T) {
	var longer, fewer, plans int
	eachTides(func(s *series, tides []int) {
		stretch := s.below(len(tides))
		more := with(tides, stretch, tides[stretch]+s.below(walk.MaxTides+1-tides[stretch]))
		if canOf(t, tides) && !canOf(t, more) {
			t.Fatalf("Can(%v) = true, but Can(%v) = false", tides, more)
		}
		a, b := longestOf(t, tides), longestOf(t, more)
		if b < a {
			t.Fatalf("Longest(%v) = %d, but Longest(%v) = %d", tides, a, more, b)
		}
		c, d := inspectorsOf(t, tides), inspectorsOf(t, more)
		if d > c {
			t.Fatalf("%v is for %d inspectors, but %v for %d", tides, c, more, d)
		}
		if a < b {
			longer++
		}
		fewer += c - d
		for _, plan := range s.somePlans(tides, 6) {
			before, after := meetsOf(t, tides, plan), meetsOf(t, more, plan)
			if before && !after {
				t.Fatalf("Meets(%v, %v) is true, but of %v it is not", tides, plan, more)
			}
			if after && !before {
				plans++
			}
		}
		l := s.someWalk(t, tides)
		for many := range len(l) {
			if goesOf(t, tides, l[:many]) && !goesOf(t, more, l[:many]) {
				t.Fatalf("Goes(%v, %v) = true, but of %v it is not", tides, l[:many], more)
			}
		}
	})
	if min(longer, fewer, plans) < 100 {
		t.Errorf("greater numbers make walks longer %d times, inspectors fewer %d times, plans meet all %d times: too few", longer, fewer, plans)
	}
}

// P8.12, M7: if a stretch goes, Can stays true if it was, and there are no more inspectors.
func TestStretchGone(t *testing.T) {
	var can, fewer int
	eachTides(func(_ *series, tides []int) {
		if len(tides) == 1 {
			return
		}
		for stretch := range tides {
			less := without(tides, stretch)
			before, after := canOf(t, tides), canOf(t, less)
			if before && !after {
				t.Fatalf("Can(%v) = true, but Can(%v) = false", tides, less)
			}
			if after && !before {
				can++
			}
			if a, b := longestOf(t, tides), longestOf(t, less); b < a {
				t.Fatalf("Longest(%v) = %d, but Longest(%v) = %d", tides, a, less, b)
			}
			a, b := inspectorsOf(t, tides), inspectorsOf(t, less)
			if b > a {
				t.Fatalf("%v is for %d inspectors, but %v for %d", tides, a, less, b)
			}
			fewer += a - b
		}
	})
	if min(can, fewer) < 1000 {
		t.Errorf("without a stretch a walk can go on for ever %d times, and %d inspectors are fewer: too few", can, fewer)
	}
}

// P8.13, M6: a plan that is begun at another tide, or read backwards, meets all just if the plan does.
func TestPlansTurned(t *testing.T) {
	number := map[bool]int{}
	check := func(tides, plan []int) {
		want := meetsOf(t, tides, plan)
		turned := plan
		for range plan {
			turned = append(slices.Clone(turned[1:]), turned[0])
			backwards := slices.Clone(turned)
			slices.Reverse(backwards)
			for _, other := range lists(turned, backwards) {
				if is := meetsOf(t, tides, other); is != want {
					t.Fatalf("Meets(%v, %v) is %t, but of %v it is %t", tides, plan, want, other, is)
				}
			}
		}
		if !slices.Equal(turned, plan) {
			t.Fatalf("%v turned all around is %v", plan, turned)
		}
		number[want]++
	}
	eachTides(func(s *series, tides []int) {
		for _, plan := range s.somePlans(tides, 1) {
			check(tides, plan)
		}
	})
	for _, x := range []struct{ stretches, greatest, most int }{{2, 5, 7}, {3, 4, 5}, {4, 4, 4}} {
		for _, tides := range allTides(x.stretches, x.greatest) {
			for many := 1; many <= x.most; many++ {
				for _, plan := range allLists(many, x.stretches) {
					check(tides, plan)
				}
			}
		}
	}
	if min(number[true], number[false]) < 1000 {
		t.Errorf("plans by whether they meet all: %v: too few", number)
	}
}

// P8.7, M2: each stretch has one inspector, who can go on for ever with the own ones; no inspector has none.
func TestEachStretchHasOneInspector(t *testing.T) {
	eachTides(func(_ *series, tides []int) {
		groups := groupsOf(t, tides)
		if !inOrder(groups) {
			t.Fatalf("Groups(%v) = %v: not in the order of first stretches", tides, groups)
		}
		stretches := 0
		for inspector := range slices.Max(groups) + 1 {
			own := ownOf(tides, groups, inspector)
			if !canOf(t, own) {
				t.Fatalf("Groups(%v) = %v, but Can(%v) = false", tides, groups, own)
			}
			stretches += len(own)
		}
		if stretches != len(tides) {
			t.Fatalf("Groups(%v) = %v: %d stretches have an inspector", tides, groups, stretches)
		}
		if (slices.Max(groups) == 0) != canOf(t, tides) {
			t.Fatalf("Groups(%v) = %v, but Can = %t", tides, groups, canOf(t, tides))
		}
	})
}

// P8.7, M3: no list for fewer inspectors, and none before it for as many, lets each of them go on for ever.
func TestNothingBeforeGroups(t *testing.T) {
	eachTides(func(_ *series, tides []int) {
		groups := groupsOf(t, tides)
		inspectors := slices.Max(groups) + 1
		for _, other := range allLists(len(tides), inspectors) {
			fewer := slices.Max(other)+1 < inspectors
			if !fewer && slices.Compare(other, groups) >= 0 {
				continue
			}
			each := true
			for inspector := range inspectors {
				own := ownOf(tides, other, inspector)
				each = each && (len(own) == 0 || canOf(t, own))
			}
			if each {
				t.Fatalf("Groups(%v) = %v, but %v is better", tides, groups, other)
			}
		}
	})
}

// M6: the tides at which a stretch was met last can be read from what is left.
func TestReadFromLeft(t *testing.T) {
	eachTides(func(s *series, tides []int) {
		l := s.someWalk(t, tides)
		for many := range l {
			left, _ := leftOf(t, tides, l[:many])
			for stretch, number := range tides {
				since := number - left[stretch]
				if since > many || slices.Contains(l[many-since:many], stretch) || since < many && l[many-since-1] != stretch {
					t.Fatalf("Left(%v, %v) = %v: %d is not since when %d was met", tides, l[:many], left, since, stretch)
				}
			}
		}
	})
}
