package sherd_test

import (
	"slices"
	"strings"
	"testing"
	"unicode"

	"bellarmine/api"
	"bellarmine/sherd"
)

// In this file the definitions of the chapter are spelt out by trying everything, and held against the functions.

// lettersFit returns whether two letters fit.
func lettersFit(a, b byte) bool {
	return a != b && unicode.ToUpper(rune(a)) == unicode.ToUpper(rune(b))
}

// possibleJoins returns all joins of a rim, in ascending order.
func possibleJoins(rim string) [][2]int {
	var l [][2]int
	for a := range len(rim) {
		for b := a + 1; b < len(rim); b++ {
			if lettersFit(rim[a], rim[b]) {
				l = append(l, [2]int{a, b})
			}
		}
	}
	return l
}

// goTogether returns whether two different joins have no edge in common, and do not cross.
func goTogether(a, b [2]int) bool {
	i, j, k, l := a[0], a[1], b[0], b[1]
	if i == k || i == l || j == k || j == l {
		return false
	}
	return !(i < k && k < j && j < l) && !(k < i && i < l && l < j)
}

// triedPlans returns all plans of a rim, in ascending order.
func triedPlans(rim string) [][][2]int {
	var plans [][][2]int
	possible := possibleJoins(rim)
	var more func(plan [][2]int, next int)
	more = func(plan [][2]int, next int) {
		plans = append(plans, slices.Clone(plan))
		for i := next; i < len(possible); i++ {
			if !slices.ContainsFunc(plan, func(other [2]int) bool { return !goTogether(possible[i], other) }) {
				more(append(plan, possible[i]), i+1)
			}
		}
	}
	more(nil, 0)
	return plans
}

// triedGreatest returns, of some plans, those with the most joins.
func triedGreatest(plans [][][2]int) [][][2]int {
	most := 0
	for _, plan := range plans {
		most = max(most, len(plan))
	}
	return slices.DeleteFunc(slices.Clone(plans), func(plan [][2]int) bool { return len(plan) < most })
}

// triedSteps returns the pairs of edges that are taken away, and the edges that are left.
func triedSteps(rim string) (steps [][2]int, left []int) {
	for edge := range len(rim) {
		left = append(left, edge)
	}
	for {
		places := neighbours(rim, left)
		if len(places) == 0 {
			return steps, left
		}
		at := places[0]
		steps = append(steps, [2]int{left[at], left[at+1]})
		left = slices.Delete(left, at, at+2)
	}
}

// neighbours returns the places of the edges that are left at which an edge and the one behind it fit.
func neighbours(rim string, left []int) []int {
	var places []int
	for at := range max(0, len(left)-1) {
		if lettersFit(rim[left[at]], rim[left[at+1]]) {
			places = append(places, at)
		}
	}
	return places
}

func triedRest(rim string) string {
	_, left := triedSteps(rim)
	rest := ""
	for _, edge := range left {
		rest += rim[edge : edge+1]
	}
	return rest
}

func triedCore(rim string) string {
	core := triedRest(rim)
	for len(core) >= 2 && lettersFit(core[0], core[len(core)-1]) {
		core = core[1 : len(core)-1]
	}
	return core
}

func triedAlike(a, b string) bool {
	a, b = triedCore(a), triedCore(b)
	for by := range len(a) {
		if a[by:]+a[:by] == b {
			return true
		}
	}
	return a == "" && b == ""
}

func triedOpposite(rim string) string {
	opposite := ""
	for i := len(rim) - 1; i >= 0; i-- {
		at := strings.Index(allLetters, rim[i:i+1])
		opposite += allLetters[(at+10)%20 : (at+10)%20+1]
	}
	return opposite
}

// triedValid returns what Valid has to return.
func triedValid(rim string, l [][2]int) api.Errno {
	for n, join := range l {
		i, j := join[0], join[1]
		twice, crossed := false, false
		for _, other := range l[:n] {
			twice = twice || i == other[0] || i == other[1] || j == other[0] || j == other[1]
			crossed = crossed || !goTogether(join, other)
		}
		switch {
		case i < 0 || j < 0 || i >= len(rim) || j >= len(rim):
			return api.ErrNone
		case i >= j:
			return api.ErrOrder
		case twice:
			return api.ErrTwice
		case !lettersFit(rim[i], rim[j]):
			return api.ErrClash
		case crossed:
			return api.ErrShape
		case n > 0 && slices.Compare(join[:], l[n-1][:]) < 0:
			return api.ErrOrder
		}
	}
	return api.OK
}

// series is a row of numbers: always the same one for the same start.
type series uint32

func (s *series) below(n int) int {
	*s = *s*1664525 + 1013904223
	return int(*s>>16) % n
}

// letter returns a letter of one of some kinds.
func (s *series) letter(kinds int) string {
	at := s.below(kinds) + 10*s.below(2)
	return allLetters[at : at+1]
}

// loose returns a rim of letters that do not depend on one another.
func (s *series) loose(edges, kinds int) string {
	rim := ""
	for range edges {
		rim += s.letter(kinds)
	}
	return rim
}

// putIn puts letters into a rim at a place.
func putIn(rim string, at int, letters string) string { return rim[:at] + letters + rim[at:] }

// closed returns a rim that can be closed, but for some letters, and one more if the number of edges is odd.
func (s *series) closed(edges, kinds, others int) string {
	rim := ""
	for len(rim)+others+1 < edges {
		letter := s.letter(kinds)
		rim = putIn(rim, s.below(len(rim)+1), letter+triedOpposite(letter))
	}
	for len(rim) < edges {
		rim = putIn(rim, s.below(len(rim)+1), s.letter(kinds))
	}
	return rim
}

// eachRimOf visits all rims of some letters with at most so many edges.
func eachRimOf(letters string, most int, visit func(rim string)) {
	var more func(rim string)
	more = func(rim string) {
		visit(rim)
		if len(rim) == most {
			return
		}
		for _, letter := range letters {
			more(rim + string(letter))
		}
	}
	more("")
}

// eachSmallRim visits all rims of one kind of letters with at most nine edges, of two kinds with at most six, and of
// three kinds with at most four.
func eachSmallRim(visit func(rim string)) {
	eachRimOf("aA", 9, visit)
	eachRimOf("bBaA", 6, visit)
	eachRimOf("ABCabc", 4, visit)
}

// eachMixedRim visits rims of all lengths, with a series for what is needed besides.
func eachMixedRim(times int, visit func(s *series, rim string)) {
	for edges := range sherd.MaxEdges + 1 {
		for time := range times {
			s := series(1000*edges + time)
			for _, kinds := range []int{1, 2, 3, 5, 10} {
				visit(&s, s.loose(edges, kinds))
				visit(&s, s.closed(edges, kinds, 0))
				visit(&s, s.closed(edges, kinds, 2))
			}
		}
	}
}

// eachRim visits all small rims, and mixed ones.
func eachRim(visit func(s *series, rim string)) {
	small := series(1)
	eachSmallRim(func(rim string) { visit(&small, rim) })
	eachMixedRim(8, visit)
}

// P5.2, P5.3; M1: all joins that are in every greatest plan, and no others; M2: each greatest plan is counted once; M3:
// no plan has more joins, and none that has as many is smaller.
func TestPlansAsDefined(t *testing.T) {
	eachRim(func(_ *series, rim string) {
		greatest := triedGreatest(triedPlans(rim))
		if n, e := sherd.Most(rim); n != len(greatest[0]) || e != api.OK {
			t.Fatalf("Most(%q) = %d, %d, want %d", rim, n, e, len(greatest[0]))
		}
		if n, e := sherd.Count(rim); n != len(greatest) || e != api.OK {
			t.Fatalf("Count(%q) = %d, %d, want %d", rim, n, e, len(greatest))
		}
		if l, e := sherd.First(rim); !slices.Equal(l, greatest[0]) || e != api.OK {
			t.Fatalf("First(%q) = %v, %d, want %v", rim, l, e, greatest[0])
		}
		forced := slices.DeleteFunc(possibleJoins(rim), func(join [2]int) bool {
			return slices.ContainsFunc(greatest, func(plan [][2]int) bool { return !slices.Contains(plan, join) })
		})
		if l, e := sherd.Forced(rim); !slices.Equal(l, forced) || e != api.OK {
			t.Fatalf("Forced(%q) = %v, %d, want %v", rim, l, e, forced)
		}
	})
}

// P5.4, P5.5.
func TestRestAsDefined(t *testing.T) {
	eachRim(func(_ *series, rim string) {
		steps, left := triedSteps(rim)
		if l, e := sherd.Steps(rim); !slices.Equal(l, steps) || e != api.OK {
			t.Fatalf("Steps(%q) = %v, %d, want %v", rim, l, e, steps)
		}
		if s, e := sherd.Rest(rim); s != triedRest(rim) || len(s) != len(left) || e != api.OK {
			t.Fatalf("Rest(%q) = %q, %d, want %q", rim, s, e, triedRest(rim))
		}
		if s, e := sherd.Core(rim); s != triedCore(rim) || e != api.OK {
			t.Fatalf("Core(%q) = %q, %d, want %q", rim, s, e, triedCore(rim))
		}
		if s, e := sherd.Opposite(rim); s != triedOpposite(rim) || e != api.OK {
			t.Fatalf("Opposite(%q) = %q, %d, want %q", rim, s, e, triedOpposite(rim))
		}
	})
}

// P5.4: a full plan has all edges of the rim in its joins.
func TestFullAsDefined(t *testing.T) {
	eachRim(func(_ *series, rim string) {
		want := slices.ContainsFunc(triedPlans(rim), func(plan [][2]int) bool { return 2*len(plan) == len(rim) })
		if full, e := sherd.Full(rim); full != want || e != api.OK {
			t.Fatalf("Full(%q) = %t, %d, want %t", rim, full, e, want)
		}
	})
}

// P5.5.
func TestTurnAsDefined(t *testing.T) {
	eachRim(func(_ *series, rim string) {
		for by := -2; by <= len(rim)+2; by++ {
			want, e := "", api.ErrRange
			if by >= 0 && by < max(1, len(rim)) {
				e = api.OK
				for i := range len(rim) {
					want += string(rim[(by+i)%len(rim)])
				}
			}
			if s, got := sherd.Turn(rim, by); s != want || got != e {
				t.Fatalf("Turn(%q, %d) = %q, %d, want %q, %d", rim, by, s, got, want, e)
			}
		}
	})
}

// P5.5.
func TestAlikeAsDefined(t *testing.T) {
	number := map[bool]int{}
	check := func(a, b string) {
		want := triedAlike(a, b)
		if is, e := sherd.Alike(a, b); is != want || e != api.OK {
			t.Fatalf("Alike(%q, %q) = %t, %d, want %t", a, b, is, e, want)
		}
		number[want]++
	}
	eachRimOf("aAb", 4, func(a string) { eachRimOf("abAB", 3, func(b string) { check(a, b) }) })
	eachRimOf("ab", 6, func(a string) { eachRimOf("ab", 6, func(b string) { check(a, b) }) })
	eachMixedRim(16, func(s *series, rim string) {
		check(rim, s.loose(len(rim), 2))
		by := s.below(max(1, len(rim)))
		turned := rim[by:] + rim[:by]
		check(rim, turned)
		if len(rim) < sherd.MaxEdges-1 {
			letter := s.letter(3)
			check(putIn(turned, s.below(len(rim)+1), letter+triedOpposite(letter)), rim)
		}
		if len(rim) > 2 {
			at := s.below(len(rim) - 1)
			check(rim, turned[:at]+turned[at+1:at+2]+turned[at:at+1]+turned[at+2:])
		}
	})
	if number[true] < 2000 || number[false] < 2000 {
		t.Errorf("%d rims are alike, and %d are not: too few", number[true], number[false])
	}
}

// eachList visits all lists of at most so many joins, also of wrong ones, of numbers from -1 to edges.
func eachList(edges, most int, visit func(l [][2]int)) {
	var more func(l [][2]int)
	more = func(l [][2]int) {
		visit(l)
		if len(l) == most {
			return
		}
		for a := -1; a <= edges; a++ {
			for b := -1; b <= edges; b++ {
				more(append(l, [2]int{a, b}))
			}
		}
	}
	more(nil)
}

// changed returns joins of which one is changed, left out, doubled or exchanged with another one.
func (s *series) changed(edges int, l [][2]int) [][2]int {
	l = slices.Clone(l)
	one, other := s.below(len(l)), s.below(len(l))
	switch s.below(5) {
	case 0:
		l[one][s.below(2)] = s.below(edges+2) - 1
	case 1:
		l = slices.Delete(l, one, one+1)
	case 2:
		l = slices.Insert(l, other, l[one])
	case 3:
		l[one], l[other] = l[other], l[one]
	case 4:
		l = slices.Insert(l, one, [2]int{s.below(edges), s.below(edges)})
	}
	return l
}

// P5.1; M4: plans are accepted, and no other joins are.
func TestValidAsDefined(t *testing.T) {
	number := map[api.Errno]int{}
	check := func(rim string, l [][2]int) {
		want := triedValid(rim, l)
		if e := sherd.Valid(rim, l); e != want {
			t.Fatalf("Valid(%q, %v) = %d, want %d", rim, l, e, want)
		}
		number[want]++
	}
	for _, rim := range []string{"", "a", "aA", "Bb", "ab", "aAa", "abA", "aAaA", "abAB", "abBA", "aabA"} {
		eachList(len(rim), 2, func(l [][2]int) { check(rim, l) })
	}
	eachList(3, 3, func(l [][2]int) { check("aAa", l) })
	eachMixedRim(4, func(s *series, rim string) {
		plans := triedPlans(rim)
		for range 20 {
			l := plans[s.below(len(plans))]
			check(rim, l)
			if len(l) > 0 {
				check(rim, s.changed(len(rim), l))
				check(rim, s.changed(len(rim), s.changed(len(rim), append(slices.Clone(l), l[0]))))
			}
		}
	})
	for _, e := range []api.Errno{api.OK, api.ErrNone, api.ErrOrder, api.ErrTwice, api.ErrClash, api.ErrShape} {
		if number[e] < 100 {
			t.Errorf("only %d lists with error %d", number[e], e)
		}
	}
}

// P5.1: just the plans are accepted, of all lists of joins of a rim.
func TestValidAcceptsPlans(t *testing.T) {
	for _, rim := range []string{"", "ab", p, q, r, "aAaAb", "abABa", "aAbaBA"} {
		plans := triedPlans(rim)
		possible := possibleJoins(rim)
		accepted := 0
		var more func(l [][2]int)
		more = func(l [][2]int) {
			if sherd.Valid(rim, l) == api.OK {
				accepted++
			}
			if len(l) <= len(rim)/2 {
				for _, join := range possible {
					more(append(slices.Clone(l), join))
				}
			}
		}
		more(nil)
		for _, plan := range plans {
			if e := sherd.Valid(rim, plan); e != api.OK {
				t.Errorf("Valid(%q, %v) = %d", rim, plan, e)
			}
		}
		if accepted != len(plans) {
			t.Errorf("%q has %d plans, and Valid accepts %d lists", rim, len(plans), accepted)
		}
	}
}
