package sherd_test

import (
	"slices"
	"strings"
	"testing"

	"bellarmine/api"
	"bellarmine/sherd"
)

// told is what is known of a rim.
type told struct {
	most, count          int
	first, forced, steps [][2]int
	rest, core           string
	full                 bool
}

// tell returns what is known of a rim that has no error.
func tell(t *testing.T, rim string) told {
	t.Helper()
	var x told
	var e [8]api.Errno
	x.most, e[0] = sherd.Most(rim)
	x.count, e[1] = sherd.Count(rim)
	x.first, e[2] = sherd.First(rim)
	x.forced, e[3] = sherd.Forced(rim)
	x.steps, e[4] = sherd.Steps(rim)
	x.rest, e[5] = sherd.Rest(rim)
	x.core, e[6] = sherd.Core(rim)
	x.full, e[7] = sherd.Full(rim)
	if e != [8]api.Errno{} {
		t.Fatalf("%q has errors: %v", rim, e)
	}
	return x
}

func restOf(t *testing.T, rim string) string {
	t.Helper()
	s, e := sherd.Rest(rim)
	if e != api.OK {
		t.Fatalf("Rest(%q) = %q, %d", rim, s, e)
	}
	return s
}

func mostOf(t *testing.T, rim string) int {
	t.Helper()
	n, e := sherd.Most(rim)
	if e != api.OK {
		t.Fatalf("Most(%q) = %d, %d", rim, n, e)
	}
	return n
}

func turnOf(t *testing.T, rim string, by int) string {
	t.Helper()
	s, e := sherd.Turn(rim, by)
	if e != api.OK {
		t.Fatalf("Turn(%q, %d) = %q, %d", rim, by, s, e)
	}
	return s
}

func oppositeOf(t *testing.T, rim string) string {
	t.Helper()
	s, e := sherd.Opposite(rim)
	if e != api.OK {
		t.Fatalf("Opposite(%q) = %q, %d", rim, s, e)
	}
	return s
}

func areAlike(t *testing.T, a, b string) bool {
	t.Helper()
	is, e := sherd.Alike(a, b)
	if e != api.OK {
		t.Fatalf("Alike(%q, %q) = %t, %d", a, b, is, e)
	}
	return is
}

// ascending returns joins in ascending order.
func ascending(l [][2]int) [][2]int {
	return slices.SortedFunc(slices.Values(l), func(a, b [2]int) int { return slices.Compare(a[:], b[:]) })
}

// places returns all edges of a rim, as they are left before any is taken away.
func places(rim string) []int {
	var l []int
	for edge := range len(rim) {
		l = append(l, edge)
	}
	return l
}

// spell returns the letters of edges.
func spell(rim string, edges []int) string {
	s := ""
	for _, edge := range edges {
		s += rim[edge : edge+1]
	}
	return s
}

// P5.6, M4: whatever is taken away first, in all ways.
func TestRestInAllWays(t *testing.T) {
	eachSmallRim(func(rim string) {
		want := restOf(t, rim)
		var take func(left []int)
		take = func(left []int) {
			next := neighbours(rim, left)
			if rest := spell(rim, left); len(next) == 0 && rest != want {
				t.Fatalf("Rest(%q) = %q, but %q is left as well", rim, want, rest)
			}
			for _, at := range next {
				take(slices.Delete(slices.Clone(left), at, at+2))
			}
		}
		take(places(rim))
	})
}

// P5.6, M4: whatever is taken away first, in some ways.
func TestRestInSomeWays(t *testing.T) {
	eachMixedRim(8, func(s *series, rim string) {
		want := restOf(t, rim)
		for range 10 {
			left := places(rim)
			for next := neighbours(rim, left); len(next) > 0; next = neighbours(rim, left) {
				at := next[s.below(len(next))]
				left = slices.Delete(left, at, at+2)
			}
			if rest := spell(rim, left); rest != want {
				t.Fatalf("Rest(%q) = %q, but %q is left as well", rim, want, rest)
			}
		}
	})
}

// P5.6, M4: a rim that cannot be closed has a rest, and of one that can be closed the steps are a full plan.
func TestFullOrRest(t *testing.T) {
	full := 0
	eachRim(func(_ *series, rim string) {
		x := tell(t, rim)
		if x.full != (x.rest == "") || x.full != (2*x.most == len(rim)) || x.full != (2*len(x.steps) == len(rim)) {
			t.Fatalf("%q: %+v", rim, x)
		}
		if steps := ascending(x.steps); x.full && sherd.Valid(rim, steps) != api.OK {
			t.Fatalf("%q: the steps %v are no full plan", rim, steps)
		}
		if len(neighbours(x.rest, places(x.rest))) > 0 || restOf(t, x.rest) != x.rest {
			t.Fatalf("%q: from the rest %q more can be taken away", rim, x.rest)
		}
		if x.full {
			full++
		}
	})
	if full < 500 {
		t.Errorf("only %d rims can be closed", full)
	}
}

// P5.7, M3: the steps are a plan, and so is the first greatest one, which is no smaller.
func TestStepsArePlan(t *testing.T) {
	more := 0
	eachRim(func(_ *series, rim string) {
		x := tell(t, rim)
		if e := sherd.Valid(rim, ascending(x.steps)); e != api.OK {
			t.Fatalf("%q: the steps %v are no plan: %d", rim, x.steps, e)
		}
		if e := sherd.Valid(rim, x.first); len(x.first) != x.most || e != api.OK {
			t.Fatalf("%q: First = %v, Most = %d, Valid = %d", rim, x.first, x.most, e)
		}
		if 2*len(x.steps) != len(rim)-len(x.rest) || x.most < len(x.steps) {
			t.Fatalf("%q: %+v", rim, x)
		}
		if x.most > len(x.steps) {
			more++
		}
	})
	if more < 500 {
		t.Errorf("only %d rims have greater plans than their steps", more)
	}
}

// parts calls a function with a rim of which some edges are left out, in all ways.
func parts(rim string, visit func(part string)) {
	for set := range 1 << len(rim) {
		part := ""
		for edge := range len(rim) {
			if set&(1<<edge) != 0 {
				part += rim[edge : edge+1]
			}
		}
		visit(part)
	}
}

// P5.7, M3: no more joins than Most can be made, whichever edges are left out, and so many can be.
func TestMostOfParts(t *testing.T) {
	check := func(rim string) {
		most := 0
		parts(rim, func(part string) {
			if len(part) > 2*most && restOf(t, part) == "" {
				most = len(part) / 2
			}
		})
		if n := mostOf(t, rim); n != most {
			t.Fatalf("Most(%q) = %d, but a part of it has %d joins", rim, n, most)
		}
	}
	eachSmallRim(check)
	eachMixedRim(1, func(_ *series, rim string) { check(rim) })
}

// P5.8, M5.
func TestTurned(t *testing.T) {
	eachRim(func(_ *series, rim string) {
		x := tell(t, rim)
		for by := range max(1, len(rim)) {
			turned := turnOf(t, rim, by)
			y := tell(t, turned)
			if x.most != y.most || x.count != y.count || x.full != y.full || len(x.core) != len(y.core) {
				t.Fatalf("%q: %+v, turned by %d %+v", rim, x, by, y)
			}
			if !areAlike(t, rim, turned) || !areAlike(t, turned, rim) {
				t.Fatalf("%q and %q are not alike", rim, turned)
			}
		}
	})
}

// P5.8, M5: joins go with the edges if a rim is turned.
func TestForcedTurned(t *testing.T) {
	eachRim(func(_ *series, rim string) {
		forced := tell(t, rim).forced
		for by := range max(1, len(rim)) {
			var want [][2]int
			for _, join := range forced {
				a, b := (join[0]-by+len(rim))%len(rim), (join[1]-by+len(rim))%len(rim)
				want = append(want, [2]int{min(a, b), max(a, b)})
			}
			if got := tell(t, turnOf(t, rim, by)).forced; !slices.Equal(got, ascending(want)) {
				t.Fatalf("Forced of %q turned by %d = %v, want %v", rim, by, got, ascending(want))
			}
		}
	})
}

// P5.8, M6: what was turned can be turned back.
func TestTurnedBack(t *testing.T) {
	eachRim(func(_ *series, rim string) {
		for by := range max(1, len(rim)) {
			turned := turnOf(t, rim, by)
			if back := turnOf(t, turned, (len(rim)-by)%max(1, len(rim))); back != rim {
				t.Fatalf("%q turned by %d is %q, turned back %q", rim, by, turned, back)
			}
		}
	})
}

// renamed returns a rim whose letters are others: each kind of letters another kind, and of some kinds the small ones
// are capitals and the capitals small.
func renamed(rim string, kinds []int, exchanged []bool) string {
	s := ""
	for i := range len(rim) {
		at := strings.IndexByte(allLetters, rim[i])
		kind, capital := at%10, at >= 10
		at = kinds[kind]
		if capital != exchanged[kind] {
			at += 10
		}
		s += allLetters[at : at+1]
	}
	return s
}

// naming returns other kinds for all kinds of letters, and of which of them small letters and capitals are exchanged.
func (s *series) naming() (kinds []int, exchanged []bool) {
	for kind := range 10 {
		kinds = slices.Insert(kinds, s.below(kind+1), kind)
		exchanged = append(exchanged, s.below(2) == 0)
	}
	return kinds, exchanged
}

// M5: which letters fit matters, and not which letters they are.
func TestLettersRenamed(t *testing.T) {
	eachRim(func(s *series, rim string) {
		kinds, exchanged := s.naming()
		other := renamed(rim, kinds, exchanged)
		x, y := tell(t, rim), tell(t, other)
		if x.most != y.most || x.count != y.count || x.full != y.full || !slices.Equal(x.first, y.first) ||
			!slices.Equal(x.forced, y.forced) || !slices.Equal(x.steps, y.steps) ||
			renamed(x.rest, kinds, exchanged) != y.rest || renamed(x.core, kinds, exchanged) != y.core {
			t.Fatalf("%q: %+v, as %q: %+v", rim, x, other, y)
		}
		if a, b := renamed(oppositeOf(t, rim), kinds, exchanged), oppositeOf(t, other); a != b {
			t.Fatalf("the opposite of %q is %q, renamed %q, want %q", rim, oppositeOf(t, rim), a, b)
		}
		third := s.loose(s.below(4), 2)
		if a, b := areAlike(t, rim, third), areAlike(t, other, renamed(third, kinds, exchanged)); a != b {
			t.Fatalf("Alike(%q, %q) = %t, renamed %t", rim, third, a, b)
		}
	})
}

// P5.9, M5.
func TestPutIn(t *testing.T) {
	eachRim(func(s *series, rim string) {
		if len(rim) > sherd.MaxEdges-2 {
			return
		}
		third := s.loose(s.below(4), 2)
		alike := areAlike(t, rim, third)
		for at := range len(rim) + 1 {
			letter := s.letter(10)
			more := putIn(rim, at, letter+triedOpposite(letter))
			if !areAlike(t, rim, more) || !areAlike(t, more, rim) {
				t.Fatalf("%q and %q are not alike", rim, more)
			}
			if is := areAlike(t, more, third); is != alike {
				t.Fatalf("Alike(%q, %q) = %t, but Alike(%q, %q) = %t", rim, third, alike, more, third, is)
			}
			if restOf(t, more) != restOf(t, rim) {
				t.Fatalf("Rest(%q) = %q, but Rest(%q) = %q", rim, restOf(t, rim), more, restOf(t, more))
			}
		}
	})
}

// P5.9: all letters can be put in, the small one first or the capital.
func TestPutInAllLetters(t *testing.T) {
	for _, rim := range []string{"", "a", "ab", p, q, "bacAB", "aabAA", "abcdefghij"} {
		for _, letter := range strings.Split(allLetters, "") {
			for at := range len(rim) + 1 {
				if more := putIn(rim, at, letter+triedOpposite(letter)); !areAlike(t, rim, more) {
					t.Errorf("%q and %q are not alike", rim, more)
				}
			}
		}
	}
}

// P5.9, M5: Alike is symmetric, each rim is alike to itself, and to the empty one just if its rest is empty.
func TestAlikeBothWays(t *testing.T) {
	eachRim(func(s *series, rim string) {
		if !areAlike(t, rim, rim) {
			t.Fatalf("%q is not alike to itself", rim)
		}
		if empty := restOf(t, rim) == ""; areAlike(t, rim, "") != empty || areAlike(t, "", rim) != empty {
			t.Fatalf("Rest(%q) = %q, but Alike to the empty rim is %t", rim, restOf(t, rim), areAlike(t, rim, ""))
		}
		for _, other := range []string{s.loose(s.below(5), 1), s.loose(s.below(7), 2), s.closed(8, 2, 2)} {
			if a, b := areAlike(t, rim, other), areAlike(t, other, rim); a != b {
				t.Fatalf("Alike(%q, %q) = %t, the other way round %t", rim, other, a, b)
			}
		}
	})
}

// P5.9, M5: a rim is alike to its core, and rims that are alike to the same one are alike.
func TestAlikeInGroups(t *testing.T) {
	var rims []string
	eachRimOf("abAB", 4, func(rim string) { rims = append(rims, rim) })
	group := map[string]string{}
	var groups []string
	for _, rim := range rims {
		at := slices.IndexFunc(groups, func(other string) bool { return areAlike(t, rim, other) })
		if at < 0 {
			at = len(groups)
			groups = append(groups, rim)
		}
		group[rim] = groups[at]
		if core := tell(t, rim).core; !areAlike(t, rim, core) {
			t.Fatalf("%q is not alike to its core %q", rim, core)
		}
	}
	for _, a := range rims {
		for _, b := range rims {
			if is := areAlike(t, a, b); is != (group[a] == group[b]) {
				t.Fatalf("Alike(%q, %q) = %t, but they are alike to %q and %q", a, b, is, group[a], group[b])
			}
		}
	}
}

// P5.10, M6.
func TestOppositeBack(t *testing.T) {
	eachRim(func(_ *series, rim string) {
		opposite := oppositeOf(t, rim)
		x, y := tell(t, rim), tell(t, opposite)
		if back := oppositeOf(t, opposite); back != rim {
			t.Fatalf("the opposite of %q is %q, and of this %q", rim, opposite, back)
		}
		if y.rest != oppositeOf(t, x.rest) || y.core != oppositeOf(t, x.core) {
			t.Fatalf("%q: %+v, its opposite %q: %+v", rim, x, opposite, y)
		}
		if x.most != y.most || x.count != y.count || x.full != y.full {
			t.Fatalf("%q: %+v, its opposite %q: %+v", rim, x, opposite, y)
		}
		var want [][2]int
		for _, join := range x.forced {
			want = append(want, [2]int{len(rim) - 1 - join[1], len(rim) - 1 - join[0]})
		}
		if !slices.Equal(y.forced, ascending(want)) {
			t.Fatalf("Forced(%q) = %v, Forced(%q) = %v", rim, x.forced, opposite, y.forced)
		}
	})
}

// P5.10: a rim and its opposite, one behind the other.
func TestOppositeBehind(t *testing.T) {
	eachRim(func(_ *series, rim string) {
		if 2*len(rim) > sherd.MaxEdges {
			return
		}
		opposite := oppositeOf(t, rim)
		for _, both := range []string{rim + opposite, opposite + rim} {
			if x := tell(t, both); x.rest != "" || !x.full || x.most != len(rim) {
				t.Fatalf("%q: %+v", both, x)
			}
		}
	})
}

// P5.11, M1.
func TestForcedInFirst(t *testing.T) {
	one, several := 0, 0
	eachRim(func(_ *series, rim string) {
		x := tell(t, rim)
		if slices.ContainsFunc(x.forced, func(join [2]int) bool { return !slices.Contains(x.first, join) }) {
			t.Fatalf("%q: First = %v, Forced = %v", rim, x.first, x.forced)
		}
		if all := len(x.forced) == len(x.first); all != (x.count == 1) || x.count < 1 {
			t.Fatalf("%q: First = %v, Forced = %v, Count = %d", rim, x.first, x.forced, x.count)
		}
		if x.most > 0 && x.count == 1 {
			one++
		}
		if len(x.forced) > 0 && x.count > 1 {
			several++
		}
	})
	if one < 200 || several < 200 {
		t.Errorf("%d rims have one greatest plan, %d some joins in all of several: too few", one, several)
	}
}

// P5.12, M7.
func TestEdgeMore(t *testing.T) {
	eachRim(func(s *series, rim string) {
		if len(rim) == sherd.MaxEdges {
			return
		}
		most := mostOf(t, rim)
		for at := range len(rim) + 1 {
			for _, letter := range []string{"a", "A", s.letter(2), s.letter(10)} {
				if n := mostOf(t, putIn(rim, at, letter)); n < most || n > most+1 {
					t.Fatalf("Most(%q) = %d, with %s at %d it is %d", rim, most, letter, at, n)
				}
			}
		}
	})
}

// P5.12, M7: two edges more that fit, and are next to one another, make just one join more.
func TestNeighboursMore(t *testing.T) {
	eachRim(func(s *series, rim string) {
		if len(rim) > sherd.MaxEdges-2 {
			return
		}
		x := tell(t, rim)
		letter := s.letter(3)
		at := s.below(len(rim) + 1)
		more := tell(t, putIn(rim, at, letter+triedOpposite(letter)))
		if more.most != x.most+1 || more.full != x.full || len(more.steps) != len(x.steps)+1 {
			t.Fatalf("%q: %+v, with %s and what fits it at %d: %+v", rim, x, letter, at, more)
		}
	})
}
