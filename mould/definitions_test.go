package mould_test

import (
	"cmp"
	"slices"
	"testing"

	"bellarmine/api"
	"bellarmine/mould"
)

// In this file the definitions of the chapter are spelt out by trying everything, and held against the functions.

func has(cast, mark int) bool { return cast>>mark&1 == 1 }

// marksIn returns the marks of a cast, in ascending order.
func marksIn(cast int) []int {
	return slices.DeleteFunc(upTo(mould.MaxMarks), func(mark int) bool { return !has(cast, mark) })
}

// castOf returns the cast that has some marks.
func castOf(marks []int) int {
	cast := 0
	for _, mark := range marks {
		cast |= 1 << mark
	}
	return cast
}

// parts returns all lists of some numbers below n, each of them in ascending order: the shorter ones first, of these
// the smaller ones first.
func parts(n int) [][]int {
	var all [][]int
	for set := range 1 << n {
		all = append(all, slices.DeleteFunc(upTo(n), func(number int) bool { return !has(set, number) }))
	}
	slices.SortFunc(all, func(a, b []int) int { return cmp.Or(len(a)-len(b), slices.Compare(a, b)) })
	return all
}

// allParts returns for each number up to MaxCasts all lists of some numbers below it.
func allParts() [mould.MaxCasts + 1][][]int {
	var all [mould.MaxCasts + 1][][]int
	for n := range all {
		all[n] = parts(n)
	}
	return all
}

// back returns a mark, the one after which it arose, and so on, and whether -1 comes at the end.
func back(origin []int, mark int) ([]int, bool) {
	var marks []int
	for mark >= 0 && !slices.Contains(marks, mark) {
		marks = append(marks, mark)
		mark = origin[mark]
	}
	return marks, mark < 0
}

// isOrigin returns whether a list is an origin of so many marks.
func isOrigin(marks int, origin []int) bool {
	if len(origin) != marks {
		return false
	}
	for mark, after := range origin {
		if after < -1 || after >= marks || after == mark {
			return false
		}
	}
	return !slices.ContainsFunc(upTo(marks), func(mark int) bool { _, ends := back(origin, mark); return !ends })
}

// fits returns whether a cast fits an origin.
func fits(origin []int, cast int) bool {
	return cast == 0 || slices.ContainsFunc(upTo(len(origin)), func(mark int) bool {
		marks, _ := back(origin, mark)
		return castOf(marks) == cast
	})
}

// set is casts that are different, each of them as the bit of its number.
type set uint64

func setOf(casts []int) set {
	var s set
	for _, cast := range casts {
		s |= 1 << cast
	}
	return s
}

// fitting returns for all origins of so many marks the casts that fit them, each set once.
func fitting(marks int) []set {
	var sets []set
	var more func(origin []int)
	more = func(origin []int) {
		if len(origin) < marks {
			for after := -1; after < marks; after++ {
				more(append(origin, after))
			}
			return
		}
		if isOrigin(marks, origin) {
			sets = append(sets, setOf(slices.DeleteFunc(upTo(1<<marks), func(cast int) bool { return !fits(origin, cast) })))
		}
	}
	more(nil)
	slices.Sort(sets)
	return slices.Compact(sets)
}

// allFitting returns this for all numbers of marks.
func allFitting() [mould.MaxMarks + 1][]set {
	var all [mould.MaxMarks + 1][]set
	for marks := 1; marks <= mould.MaxMarks; marks++ {
		all[marks] = fitting(marks)
	}
	return all
}

func triedHonest(origins []set, casts []int) bool {
	s := setOf(casts)
	return slices.ContainsFunc(origins, func(fit set) bool { return s&^fit == 0 })
}

// shown returns whether three casts show that two marks clash.
func shown(one, two, both, first, second int) bool {
	return slices.Equal([]bool{has(both, one), has(both, two), has(first, one), has(first, two), has(second, one), has(second, two)},
		[]bool{true, true, true, false, false, true})
}

func triedClash(casts []int, one, two int) bool {
	for _, both := range casts {
		for _, first := range casts {
			for _, second := range casts {
				if shown(one, two, both, first, second) {
					return true
				}
			}
		}
	}
	return false
}

// triedWhy returns the first two marks that clash, and whether there are any.
func triedWhy(marks int, casts []int) (one, two int, is bool) {
	for one := range marks {
		for two := one + 1; two < marks; two++ {
			if triedClash(casts, one, two) {
				return one, two, true
			}
		}
	}
	return 0, 0, false
}

// having returns how many casts have all of some marks.
func having(casts []int, marks ...int) int {
	n := 0
	for _, cast := range casts {
		if !slices.ContainsFunc(marks, func(mark int) bool { return !has(cast, mark) }) {
			n++
		}
	}
	return n
}

// triedAfter returns the mark after which one arose, as it is found for Origin.
func triedAfter(marks int, casts []int, mark int) int {
	n := having(casts, mark)
	if n == 0 {
		return -1
	}
	others := slices.DeleteFunc(upTo(marks), func(other int) bool {
		alike := having(casts, mark, other) == n && having(casts, other) == n
		return other == mark || having(casts, mark, other) < n || alike && other > mark
	})
	if len(others) == 0 {
		return -1
	}
	return slices.MinFunc(others, func(a, b int) int { return cmp.Or(having(casts, a)-having(casts, b), b-a) })
}

func triedOrigin(marks int, casts []int) []int {
	var origin []int
	for mark := range marks {
		origin = append(origin, triedAfter(marks, casts, mark))
	}
	return origin
}

// triedPath returns the marks of a cast in the order of an origin.
func triedPath(origin []int, cast int) []int {
	for mark := range origin {
		if marks, _ := back(origin, mark); castOf(marks) == cast {
			slices.Reverse(marks)
			return marks
		}
	}
	return nil
}

// without returns casts without some of them.
func without(casts []int, indices ...int) []int {
	var left []int
	for i, cast := range casts {
		if !slices.Contains(indices, i) {
			left = append(left, cast)
		}
	}
	return left
}

// unmarked returns casts of which none has some marks.
func unmarked(casts []int, marks ...int) []int {
	var l []int
	for _, cast := range casts {
		l = append(l, castOf(slices.DeleteFunc(marksIn(cast), func(mark int) bool { return slices.Contains(marks, mark) })))
	}
	return l
}

// differing returns the marks in which each cast differs from a model.
func differing(casts []int, model int) []int {
	var l []int
	for _, cast := range casts {
		l = append(l, castOf(slices.DeleteFunc(upTo(mould.MaxMarks), func(mark int) bool { return has(cast, mark) == has(model, mark) })))
	}
	return l
}

// triedModels returns all models from which casts come, in ascending order.
func triedModels(origins []set, marks int, casts []int) []int {
	return slices.DeleteFunc(upTo(1<<marks), func(model int) bool { return !triedHonest(origins, differing(casts, model)) })
}

// series is a row of numbers: always the same one for the same start.
type series uint32

func (s *series) below(n int) int {
	*s = *s*1664525 + 1013904223
	return int(*s>>16) % n
}

// order returns a list of the numbers below n, each once.
func (s *series) order(n int) []int {
	l := upTo(n)
	for i := range l {
		j := i + s.below(n-i)
		l[i], l[j] = l[j], l[i]
	}
	return l
}

// origin returns an origin: each mark arose after one that stands before it in some order, mostly not far, or first.
func (s *series) origin(marks int) []int {
	origin := make([]int, marks)
	order := s.order(marks)
	for i, mark := range order {
		origin[mark] = -1
		if i > 0 && s.below(6) > 0 {
			origin[mark] = order[max(s.below(i), s.below(i))]
		}
	}
	return origin
}

// mixed returns casts of one origin, of whose marks some are changed: more of them if they are wilder, which is a number
// of tenths. If a model is given that has marks, the casts differ from it instead.
func (s *series) mixed(marks, number, wilder, model int) []int {
	var casts []int
	origin := s.origin(marks)
	for range number {
		cast := 0
		if s.below(8) > 0 {
			path, _ := back(origin, s.below(marks))
			cast = castOf(path)
		}
		if s.below(10) < wilder {
			cast ^= 1 << s.below(marks)
		}
		casts = append(casts, cast^model)
	}
	return casts
}

// eachSmallCasts visits all casts of one and two marks with at most five casts, and of three marks with at most four.
func eachSmallCasts(visit func(marks int, casts []int)) {
	for marks, most := range []int{1: 5, 2: 5, 3: 4} {
		var more func(casts []int)
		more = func(casts []int) {
			visit(marks, casts)
			if len(casts) == most {
				return
			}
			for cast := range 1 << marks {
				more(append(slices.Clone(casts), cast))
			}
		}
		if marks > 0 {
			more(nil)
		}
	}
}

// eachMixedCasts visits casts of all numbers of marks and casts, with a series for what is needed besides.
func eachMixedCasts(times int, visit func(s *series, marks int, casts []int)) {
	for marks := 1; marks <= mould.MaxMarks; marks++ {
		for time := range times {
			s := series(1000*marks + time)
			for number := range mould.MaxCasts + 1 {
				wilder, model := []int{0, 1, 3, 10}[time%4], 0
				if time%3 == 2 {
					model = s.below(1 << marks)
				}
				visit(&s, marks, s.mixed(marks, number, wilder, model))
			}
		}
	}
}

// eachCasts visits all small casts, and mixed ones.
func eachCasts(visit func(s *series, marks int, casts []int)) {
	small := series(1)
	eachSmallCasts(func(marks int, casts []int) { visit(&small, marks, casts) })
	eachMixedCasts(96, visit)
}

// P6.1, P6.2; M1: casts are honest if there is an origin that they fit, and only then.
func TestHonestAsDefined(t *testing.T) {
	origins := allFitting()
	number := map[bool]int{}
	eachCasts(func(_ *series, marks int, casts []int) {
		want := triedHonest(origins[marks], casts)
		if is, e := mould.Honest(marks, casts); is != want || e != api.OK {
			t.Fatalf("Honest(%d, %v) = %t, %d, want %t", marks, casts, is, e, want)
		}
		wantOne, wantTwo, clash := triedWhy(marks, casts)
		wantError := api.ErrClash
		if clash {
			wantError = api.OK
		}
		if one, two, e := mould.Why(marks, casts); one != wantOne || two != wantTwo || e != wantError {
			t.Fatalf("Why(%d, %v) = %d, %d, %d, want %d, %d, %d", marks, casts, one, two, e, wantOne, wantTwo, wantError)
		}
		if len(casts) > 3 {
			number[want]++
		}
	})
	if number[true] < 1000 || number[false] < 1000 {
		t.Errorf("casts are honest %d times, and not honest %d times: too few", number[true], number[false])
	}
}

// wantProof returns what Proves has to return.
func wantProof(marks int, casts []int, one, two, both, first, second int) api.Errno {
	if min(one, two) < 0 || max(one, two) >= marks || min(both, first, second) < 0 || max(both, first, second) >= len(casts) {
		return api.ErrNone
	}
	if !shown(one, two, casts[both], casts[first], casts[second]) {
		return api.ErrProof
	}
	return api.OK
}

// P6.2; M4: three casts that show that two marks clash are accepted, and no others are.
func TestProvesAsDefined(t *testing.T) {
	number := map[api.Errno]int{}
	check := func(marks int, casts []int, one, two, both, first, second int) {
		want := wantProof(marks, casts, one, two, both, first, second)
		if e := mould.Proves(marks, casts, one, two, both, first, second); e != want {
			t.Fatalf("Proves(%d, %v, %d, %d, %d, %d, %d) = %d, want %d", marks, casts, one, two, both, first, second, e, want)
		}
		number[want]++
	}
	eachSmallCasts(func(marks int, casts []int) {
		if len(casts) > 3 {
			return
		}
		for one := -1; one <= marks; one++ {
			for two := -1; two <= marks; two++ {
				for three := range 125 {
					check(marks, casts, one, two, three%5-1, three/5%5-1, three/25-1)
				}
			}
		}
	})
	eachMixedCasts(96, func(s *series, marks int, casts []int) {
		n := len(casts) + 1
		for range 400 {
			check(marks, casts, s.below(marks+2)-1, s.below(marks), s.below(n), s.below(n), s.below(n))
		}
	})
	for _, e := range []api.Errno{api.OK, api.ErrNone, api.ErrProof} {
		if number[e] < 1000 {
			t.Errorf("only %d calls with error %d", number[e], e)
		}
	}
}

// P6.3: the origin is found as the promise says, and all casts fit it.
func TestOriginAsDefined(t *testing.T) {
	deep := 0
	eachCasts(func(_ *series, marks int, casts []int) {
		is, _ := mould.Honest(marks, casts)
		l, e := mould.Origin(marks, casts)
		if !is {
			if len(l) != 0 || e != api.ErrLost {
				t.Fatalf("Origin(%d, %v) = %v, %d, want ErrLost", marks, casts, l, e)
			}
			return
		}
		if want := triedOrigin(marks, casts); !slices.Equal(l, want) || e != api.OK {
			t.Fatalf("Origin(%d, %v) = %v, %d, want %v", marks, casts, l, e, want)
		}
		if !isOrigin(marks, l) || slices.ContainsFunc(casts, func(cast int) bool { return !fits(l, cast) }) {
			t.Fatalf("Origin(%d, %v) = %v: not all casts fit it", marks, casts, l)
		}
		if slices.ContainsFunc(casts, func(cast int) bool { return len(marksIn(cast)) > 3 }) {
			deep++
		}
	})
	if deep < 100 {
		t.Errorf("only %d origins with more than three marks in a line", deep)
	}
}

// P6.4.
func TestPathsAsDefined(t *testing.T) {
	common := 0
	eachCasts(func(_ *series, marks int, casts []int) {
		if is, _ := mould.Honest(marks, casts); !is {
			return
		}
		origin := triedOrigin(marks, casts)
		for a := range casts {
			path := triedPath(origin, casts[a])
			if l, e := mould.Path(marks, casts, a); !slices.Equal(l, path) || e != api.OK {
				t.Fatalf("Path(%d, %v, %d) = %v, %d, want %v", marks, casts, a, l, e, path)
			}
			for b := range casts {
				want := -1
				for _, mark := range path {
					if has(casts[b], mark) {
						want = mark
					}
				}
				if n, e := mould.Last(marks, casts, a, b); n != want || e != api.OK {
					t.Fatalf("Last(%d, %v, %d, %d) = %d, %d, want %d", marks, casts, a, b, n, e, want)
				}
				if want >= 0 && casts[a] != casts[b] {
					common++
				}
			}
		}
	})
	if common < 1000 {
		t.Errorf("only %d pairs of different casts with common marks", common)
	}
}

// P6.5; M3: no list of casts or marks that have to be left out is shorter, and none that is as short is smaller.
func TestLeftOutAsDefined(t *testing.T) {
	origins, some := allFitting(), allParts()
	several := 0
	eachCasts(func(_ *series, marks int, casts []int) {
		at := slices.IndexFunc(some[len(casts)], func(l []int) bool { return triedHonest(origins[marks], without(casts, l...)) })
		want := some[len(casts)][at]
		if l, e := mould.Forged(marks, casts); !slices.Equal(l, want) || e != api.OK {
			t.Fatalf("Forged(%d, %v) = %v, %d, want %v", marks, casts, l, e, want)
		}
		at = slices.IndexFunc(some[marks], func(l []int) bool { return triedHonest(origins[marks], unmarked(casts, l...)) })
		worn := some[marks][at]
		if l, e := mould.Worn(marks, casts); !slices.Equal(l, worn) || e != api.OK {
			t.Fatalf("Worn(%d, %v) = %v, %d, want %v", marks, casts, l, e, worn)
		}
		if len(want) > 1 && len(worn) > 1 {
			several++
		}
	})
	if several < 100 {
		t.Errorf("only %d lists with more than one forged cast and more than one worn mark", several)
	}
}

// P6.6; M3: no model from which casts come is smaller.
func TestModelAsDefined(t *testing.T) {
	origins := allFitting()
	number := map[api.Errno]int{}
	eachCasts(func(_ *series, marks int, casts []int) {
		want, wantError := 0, api.ErrLost
		if models := triedModels(origins[marks], marks, casts); len(models) > 0 {
			want, wantError = models[0], api.OK
		}
		if n, e := mould.Model(marks, casts); n != want || e != wantError {
			t.Fatalf("Model(%d, %v) = %d, %d, want %d, %d", marks, casts, n, e, want, wantError)
		}
		if want > 0 || wantError != api.OK {
			number[wantError]++
		}
	})
	if number[api.OK] < 200 || number[api.ErrLost] < 200 {
		t.Errorf("%d models above 0, and %d times none: too few", number[api.OK], number[api.ErrLost])
	}
}
