package walk_test

import (
	"slices"
	"testing"

	"bellarmine/api"
	"bellarmine/walk"
)

// In this file the definitions of the chapter are spelt out with walks, by trying everything, and held against the
// functions.

// triedMisses returns whether there are so many tides, one after the other, at none of which a stretch is met.
func triedMisses(tides []int, stretch, number int) bool {
	for begin := 0; begin+number <= len(tides); begin++ {
		if !slices.Contains(tides[begin:begin+number], stretch) {
			return true
		}
	}
	return false
}

func triedGood(tides, tried []int) bool {
	for stretch, number := range tides {
		if triedMisses(tried, stretch, number) {
			return false
		}
	}
	return true
}

// triedLeft returns each number less the tides since the stretch was met, or since the beginning.
func triedLeft(tides, tried []int) []int {
	var l []int
	for stretch, number := range tides {
		since := len(tried)
		for tide, met := range tried {
			if met == stretch {
				since = len(tried) - 1 - tide
			}
		}
		l = append(l, number-since)
	}
	return l
}

// triedMeets goes along a plan from each of its tides, as far as each stretch may stay unmet, and begins anew at its end.
func triedMeets(tides, plan []int) bool {
	for stretch, number := range tides {
		for begin := range plan {
			met := false
			for tide := range number {
				met = met || plan[(begin+tide)%len(plan)] == stretch
			}
			if !met {
				return false
			}
		}
	}
	return true
}

// world is all good walks for some tides. How a walk can go on depends only on its last tides, as many as a stretch may
// stay unmet: walks with the same end are told as one.
type world struct {
	tides []int
	ends  map[string][]string
	// rest is how many more tides there can be at most behind an end. Behind ends that are not in it there is no last tide.
	rest map[string]int
}

// endOf returns the end of a walk.
func endOf(tides, tried []int) string {
	var end []byte
	for _, stretch := range tried[max(0, len(tried)-slices.Max(tides)+1):] {
		end = append(end, byte(stretch))
	}
	return string(end)
}

// worldOf tries all walks.
func worldOf(tides []int) world {
	w := world{tides, map[string][]string{"": nil}, map[string]int{}}
	for work := []string{""}; len(work) > 0; {
		end := work[0]
		work = work[1:]
		for stretch := range tides {
			var tried []int
			for _, before := range []byte(end) {
				tried = append(tried, int(before))
			}
			tried = append(tried, stretch)
			if !triedGood(tides, tried) {
				continue
			}
			next := endOf(tides, tried)
			w.ends[end] = append(w.ends[end], next)
			if _, is := w.ends[next]; !is {
				w.ends[next] = nil
				work = append(work, next)
			}
		}
	}
	w.count()
	return w
}

// count takes away the ends behind which there is no tide, then those behind which there is one, and so on.
func (w world) count() {
	for tides := 0; ; tides++ {
		var last []string
		for end, next := range w.ends {
			if _, is := w.rest[end]; is {
				continue
			}
			if !slices.ContainsFunc(next, func(other string) bool { _, is := w.rest[other]; return !is }) {
				last = append(last, end)
			}
		}
		if len(last) == 0 {
			return
		}
		for _, end := range last {
			w.rest[end] = tides
		}
	}
}

// goes returns whether a good walk can go on for ever.
func (w world) goes(tried []int) bool {
	_, is := w.rest[endOf(w.tides, tried)]
	return !is
}

// next returns a walk with one tide more, at the first stretch with which it can go on for ever.
func (w world) next(l []int) []int {
	return append(slices.Clone(l), slices.IndexFunc(upTo(len(w.tides)), func(stretch int) bool {
		longer := append(slices.Clone(l), stretch)
		return triedGood(w.tides, longer) && w.goes(longer)
	}))
}

// loop returns where the first walk repeats itself.
func (w world) loop() (begin, loop []int) {
	var l []int
	lefts := [][]int{triedLeft(w.tides, l)}
	for {
		l = w.next(l)
		left := triedLeft(w.tides, l)
		if at := slices.IndexFunc(lefts, func(before []int) bool { return slices.Equal(before, left) }); at >= 0 {
			return l[:at], l[at:]
		}
		lefts = append(lefts, left)
	}
}

// series is a row of numbers: always the same one for the same start.
type series uint32

func (s *series) below(n int) int {
	*s = *s*1664525 + 1013904223
	return int(*s>>16) % n
}

// list returns so many numbers below n.
func (s *series) list(many, n int) []int {
	var l []int
	for range many {
		l = append(l, s.below(n))
	}
	return l
}

// order returns a list of the numbers below n, each once.
func (s *series) order(n int) []int {
	l := upTo(n)
	for i := range l {
		j := i + s.below(n-i)
		l[i], l[j] = l[j], l[i]
	}
	return l
}

// allLists returns all lists of so many numbers below n, in ascending order.
func allLists(many, n int) [][]int {
	all := [][]int{nil}
	for range many {
		var longer [][]int
		for _, l := range all {
			for number := range n {
				longer = append(longer, append(slices.Clone(l), number))
			}
		}
		all = longer
	}
	return all
}

// allTides returns all numbers of tides up to the greatest one of so many stretches.
func allTides(stretches, greatest int) [][]int {
	all := allLists(stretches, greatest)
	for _, l := range all {
		for stretch := range l {
			l[stretch]++
		}
	}
	return all
}

// eachTides visits all numbers of tides that there are, in ascending order, those of fewer stretches first.
func eachTides(visit func(s *series, tides []int)) {
	s := series(1)
	for stretches := 1; stretches <= walk.MaxStretches; stretches++ {
		for _, tides := range allTides(stretches, walk.MaxTides) {
			visit(&s, tides)
		}
	}
}

// eachWorld visits all numbers of tides of up to two stretches, and for three and four stretches each choice of numbers
// in one order.
func eachWorld(visit func(s *series, w world)) {
	eachTides(func(s *series, tides []int) {
		if len(tides) > 2 {
			if !slices.IsSorted(tides) {
				return
			}
			tides = moved(tides, s.order(len(tides)))
		}
		visit(s, worldOf(tides))
	})
}

// moved returns a list whose elements are at other places.
func moved(l, places []int) []int {
	other := make([]int, len(l))
	for i, place := range places {
		other[place] = l[i]
	}
	return other
}

// someWalks returns walks that are good as long as the series likes it, and one tide that may be bad.
func (w world) someWalks(s *series, many int) [][]int {
	all := [][]int{nil}
	for range many {
		var l []int
		for length := 1 + s.below(25); len(l) < length; {
			var good []int
			for stretch := range w.tides {
				if triedGood(w.tides, append(slices.Clone(l), stretch)) {
					good = append(good, stretch)
				}
			}
			if len(good) == 0 {
				break
			}
			l = append(l, good[s.below(len(good))])
			all = append(all, slices.Clone(l))
		}
		all = append(all, append(l, s.below(len(w.tides))))
	}
	return all
}

// P8.2; M3: no good walk is longer than Longest, and Can is true just if there is no longest one.
func TestLongestAsDefined(t *testing.T) {
	number := map[bool]int{}
	eachWorld(func(_ *series, w world) {
		want := w.goes(nil)
		wantError := api.OK
		if want {
			wantError = api.ErrClash
		}
		if is, e := walk.Can(w.tides); is != want || e != api.OK {
			t.Fatalf("Can(%v) = %t, %d, want %t", w.tides, is, e, want)
		}
		if n, e := walk.Longest(w.tides); n != w.rest[""] || e != wantError {
			t.Fatalf("Longest(%v) = %d, %d, want %d, %d", w.tides, n, e, w.rest[""], wantError)
		}
		number[want]++
	})
	if min(number[true], number[false]) < 150 {
		t.Errorf("tides by whether a walk can go on for ever: %v: too few", number)
	}
}

// P8.3; M1: all walks that can go on for ever, and no others.
func TestLeftAsDefined(t *testing.T) {
	var bad, ends, goes int
	eachWorld(func(s *series, w world) {
		for _, tried := range w.someWalks(s, 6) {
			left, e := walk.Left(w.tides, tried)
			is, f := walk.Goes(w.tides, tried)
			if !triedGood(w.tides, tried) {
				if len(left) != 0 || e != api.ErrLost || is || f != api.ErrLost {
					t.Fatalf("%v, %v: Left = %v, %d, Goes = %t, %d, want ErrLost", w.tides, tried, left, e, is, f)
				}
				bad++
				continue
			}
			if want := triedLeft(w.tides, tried); !slices.Equal(left, want) || e != api.OK {
				t.Fatalf("Left(%v, %v) = %v, %d, want %v", w.tides, tried, left, e, want)
			}
			if want := w.goes(tried); is != want || f != api.OK {
				t.Fatalf("Goes(%v, %v) = %t, %d, want %t", w.tides, tried, is, f, want)
			}
			if is {
				goes++
			} else {
				ends++
			}
		}
	})
	if min(bad, ends, goes) < 500 {
		t.Errorf("%d walks are not good, %d end, %d can go on for ever: too few", bad, ends, goes)
	}
}

// P8.3; M1: the same of all walks with few tides.
func TestShortWalksAsDefined(t *testing.T) {
	for _, x := range []struct{ stretches, greatest, most int }{{1, 8, 9}, {2, 5, 7}, {3, 4, 5}, {4, 2, 4}} {
		for _, tides := range allTides(x.stretches, x.greatest) {
			w := worldOf(tides)
			for many := range x.most + 1 {
				for _, tried := range allLists(many, x.stretches) {
					var wantLeft []int
					want, wantError := false, api.ErrLost
					if triedGood(tides, tried) {
						wantLeft, want, wantError = triedLeft(tides, tried), w.goes(tried), api.OK
					}
					if left, e := walk.Left(tides, tried); !slices.Equal(left, wantLeft) || e != wantError {
						t.Fatalf("Left(%v, %v) = %v, %d, want %v, %d", tides, tried, left, e, wantLeft, wantError)
					}
					if is, e := walk.Goes(tides, tried); is != want || e != wantError {
						t.Fatalf("Goes(%v, %v) = %t, %d, want %t, %d", tides, tried, is, e, want, wantError)
					}
				}
			}
		}
	}
}

// P8.4; M3: no walk before the one that is returned can go on for ever: all walks with few tides are tried.
func TestFirstAsDefined(t *testing.T) {
	for _, x := range []struct{ stretches, greatest, most int }{{1, 8, 9}, {2, 8, 8}, {3, 8, 5}, {4, 5, 4}} {
		for _, tides := range allTides(x.stretches, x.greatest) {
			w := worldOf(tides)
			for many := range x.most + 1 {
				all := allLists(many, x.stretches)
				at := slices.IndexFunc(all, func(tried []int) bool { return triedGood(tides, tried) && w.goes(tried) })
				var want []int
				wantError := api.ErrLost
				if at >= 0 {
					want, wantError = all[at], api.OK
				}
				if l, e := walk.Walk(tides, many); !slices.Equal(l, want) || e != wantError {
					t.Fatalf("Walk(%v, %d) = %v, %d, want %v, %d", tides, many, l, e, want, wantError)
				}
			}
		}
	}
}

// P8.5: Loop, and P8.4: Walk with the most tides.
func TestLoopAsDefined(t *testing.T) {
	long, later := 0, 0
	eachWorld(func(s *series, w world) {
		begin, loop, e := walk.Loop(w.tides)
		all, f := walk.Walk(w.tides, walk.MaxPlan)
		if !w.goes(nil) {
			if len(begin) != 0 || len(loop) != 0 || e != api.ErrLost || len(all) != 0 || f != api.ErrLost {
				t.Fatalf("%v: Loop = %v, %v, %d, Walk = %v, %d, want ErrLost", w.tides, begin, loop, e, all, f)
			}
			return
		}
		wantBegin, wantLoop := w.loop()
		if !slices.Equal(begin, wantBegin) || !slices.Equal(loop, wantLoop) || e != api.OK {
			t.Fatalf("Loop(%v) = %v, %v, %d, want %v, %v", w.tides, begin, loop, e, wantBegin, wantLoop)
		}
		var want []int
		for range walk.MaxPlan {
			want = w.next(want)
		}
		if !slices.Equal(all, want) || f != api.OK {
			t.Fatalf("Walk(%v, 60) = %v, %d, want %v", w.tides, all, f, want)
		}
		if len(loop) > len(w.tides) {
			long++
		}
		if len(begin) > 0 {
			later++
		}
	})
	if min(long, later) < 50 {
		t.Errorf("%d loops longer than there are stretches, %d behind a beginning: too few", long, later)
	}
}

// somePlans returns plans of up to MaxPlan tides: good walks that may be cut anywhere, and any.
func (s *series) somePlans(tides []int, many int) [][]int {
	var all [][]int
	all = append(all, upTo(len(tides)))
	if l, e := walk.Walk(tides, walk.MaxPlan); e == api.OK {
		for range many {
			begin := s.below(len(l))
			all = append(all, l[begin:begin+1+s.below(len(l)-begin)])
		}
	}
	for range many {
		all = append(all, s.list(1+s.below(12), len(tides)))
	}
	// Plans at which few stretches are met are bad only because of the others.
	all = append(all, s.list(1+s.below(walk.MaxPlan), 1+s.below(len(tides))))
	return all
}

// P8.6; M4: plans that meet all are accepted, and no others are.
func TestMeetsAsDefined(t *testing.T) {
	number := map[api.Errno]int{}
	check := func(tides, plan []int) {
		want := api.ErrProof
		if triedMeets(tides, plan) {
			want = api.OK
		}
		if e := walk.Meets(tides, plan); e != want {
			t.Fatalf("Meets(%v, %v) = %d, want %d", tides, plan, e, want)
		}
		number[want]++
	}
	eachTides(func(s *series, tides []int) {
		for _, plan := range s.somePlans(tides, 12) {
			check(tides, plan)
		}
	})
	for _, x := range []struct{ stretches, greatest, most int }{{1, 8, 9}, {2, 6, 8}, {3, 4, 6}, {4, 3, 5}, {4, 6, 4}} {
		for _, tides := range allTides(x.stretches, x.greatest) {
			for many := 1; many <= x.most; many++ {
				for _, plan := range allLists(many, x.stretches) {
					check(tides, plan)
				}
			}
		}
	}
	if min(number[api.OK], number[api.ErrProof]) < 3000 {
		t.Errorf("plans by whether they meet all: %v: too few", number)
	}
}

// inOrder returns whether inspectors are numbered from 0 in the order of their first stretches.
func inOrder(groups []int) bool {
	inspectors := 0
	for _, inspector := range groups {
		if inspector > inspectors {
			return false
		}
		if inspector == inspectors {
			inspectors++
		}
	}
	return true
}

// P8.7; M3: no division has fewer inspectors, and none of those with as few comes before.
func TestGroupsAsDefined(t *testing.T) {
	can := map[string]bool{"": true}
	eachWorld(func(_ *series, w world) {
		can[keyOf(w.tides)] = w.goes(nil)
	})
	divisions := map[int][][]int{}
	for stretches := 1; stretches <= walk.MaxStretches; stretches++ {
		all := slices.DeleteFunc(allLists(stretches, stretches), func(groups []int) bool { return !inOrder(groups) })
		slices.SortStableFunc(all, func(a, b []int) int { return slices.Max(a) - slices.Max(b) })
		divisions[stretches] = all
	}
	number := map[int]int{}
	eachTides(func(_ *series, tides []int) {
		all := divisions[len(tides)]
		want := all[slices.IndexFunc(all, func(groups []int) bool {
			return !slices.ContainsFunc(upTo(len(tides)), func(inspector int) bool { return !can[keyOf(ownOf(tides, groups, inspector))] })
		})]
		if l, e := walk.Groups(tides); !slices.Equal(l, want) || e != api.OK {
			t.Fatalf("Groups(%v) = %v, %d, want %v", tides, l, e, want)
		}
		number[slices.Max(want)+1]++
	})
	if min(number[1], number[2], number[3], number[4]) < 25 {
		t.Errorf("tides by the number of inspectors: %v: too few", number)
	}
}

// keyOf returns a string that is the same for all orders of numbers.
func keyOf(tides []int) string {
	var key []byte
	for _, number := range slices.Sorted(slices.Values(tides)) {
		key = append(key, byte(number))
	}
	return string(key)
}

// ownOf returns the numbers of the stretches of an inspector.
func ownOf(tides, groups []int, inspector int) []int {
	var own []int
	for stretch, number := range tides {
		if groups[stretch] == inspector {
			own = append(own, number)
		}
	}
	return own
}
