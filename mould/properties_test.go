package mould_test

import (
	"slices"
	"testing"

	"bellarmine/api"
	"bellarmine/mould"
)

func isHonest(t *testing.T, marks int, casts []int) bool {
	t.Helper()
	is, e := mould.Honest(marks, casts)
	if e != api.OK {
		t.Fatalf("Honest(%d, %v) = %t, %d", marks, casts, is, e)
	}
	return is
}

func originOf(t *testing.T, marks int, casts []int) []int {
	t.Helper()
	l, e := mould.Origin(marks, casts)
	if len(l) != marks || e != api.OK {
		t.Fatalf("Origin(%d, %v) = %v, %d", marks, casts, l, e)
	}
	return l
}

func pathOf(t *testing.T, marks int, casts []int, cast int) []int {
	t.Helper()
	l, e := mould.Path(marks, casts, cast)
	if e != api.OK {
		t.Fatalf("Path(%d, %v, %d) = %v, %d", marks, casts, cast, l, e)
	}
	return l
}

func lastOf(t *testing.T, marks int, casts []int, a, b int) int {
	t.Helper()
	n, e := mould.Last(marks, casts, a, b)
	if e != api.OK {
		t.Fatalf("Last(%d, %v, %d, %d) = %d, %d", marks, casts, a, b, n, e)
	}
	return n
}

func forgedOf(t *testing.T, marks int, casts []int) []int {
	t.Helper()
	l, e := mould.Forged(marks, casts)
	if e != api.OK {
		t.Fatalf("Forged(%d, %v) = %v, %d", marks, casts, l, e)
	}
	return l
}

func wornOf(t *testing.T, marks int, casts []int) []int {
	t.Helper()
	l, e := mould.Worn(marks, casts)
	if e != api.OK {
		t.Fatalf("Worn(%d, %v) = %v, %d", marks, casts, l, e)
	}
	return l
}

// modelOf returns the smallest model, or -1 if there is none.
func modelOf(t *testing.T, marks int, casts []int) int {
	t.Helper()
	n, e := mould.Model(marks, casts)
	if e == api.ErrLost && n == 0 {
		return -1
	}
	if e != api.OK {
		t.Fatalf("Model(%d, %v) = %d, %d", marks, casts, n, e)
	}
	return n
}

// proof is two marks that clash, and three casts that show it.
type proof struct{ one, two, both, first, second int }

// proofs returns all proofs that are accepted.
func proofs(marks int, casts []int) []proof {
	var l []proof
	for one := range marks {
		for two := range marks {
			for both := range casts {
				for first := range casts {
					for second := range casts {
						if mould.Proves(marks, casts, one, two, both, first, second) == api.OK {
							l = append(l, proof{one, two, both, first, second})
						}
					}
				}
			}
		}
	}
	return l
}

// P6.7, M1, M4: casts are honest just if there is no proof, and what Why returns has one.
func TestHonestOrProof(t *testing.T) {
	eachCasts(func(_ *series, marks int, casts []int) {
		is, accepted := isHonest(t, marks, casts), proofs(marks, casts)
		if is != (len(accepted) == 0) {
			t.Fatalf("Honest(%d, %v) = %t, but the proofs are %v", marks, casts, is, accepted)
		}
		one, two, e := mould.Why(marks, casts)
		if is != (e == api.ErrClash) {
			t.Fatalf("Honest(%d, %v) = %t, but Why = %d, %d, %d", marks, casts, is, one, two, e)
		}
		if !is && !slices.ContainsFunc(accepted, func(p proof) bool { return p.one == one && p.two == two }) {
			t.Fatalf("Why(%d, %v) = %d, %d, but the proofs are %v", marks, casts, one, two, accepted)
		}
	})
}

// kinds returns how many of four kinds there are: casts with both of two marks, with none, with each one alone.
func kinds(casts []int, one, two int) int {
	seen := map[[2]bool]bool{}
	for _, cast := range casts {
		seen[[2]bool{has(cast, one), has(cast, two)}] = true
	}
	return len(seen)
}

// P6.8, M4: there is no model just if two marks have all four kinds of casts.
func TestModelOrFourKinds(t *testing.T) {
	number := map[bool]int{}
	eachCasts(func(_ *series, marks int, casts []int) {
		four := false
		for one := range marks {
			for two := range one {
				four = four || kinds(casts, one, two) == 4
			}
		}
		if model := modelOf(t, marks, casts); (model < 0) != four {
			t.Fatalf("Model(%d, %v) = %d, but that two marks have four kinds of casts is %t", marks, casts, model, four)
		}
		number[four]++
	})
	if number[true] < 500 || number[false] < 500 {
		t.Errorf("four kinds %d times, fewer %d times: too few", number[true], number[false])
	}
}

// P6.8: if casts come from a model, they come from each of the casts, and otherwise from no model.
func TestCastsAsModels(t *testing.T) {
	eachCasts(func(_ *series, marks int, casts []int) {
		model := modelOf(t, marks, casts)
		if model >= 0 && !isHonest(t, marks, differing(casts, model)) {
			t.Fatalf("Model(%d, %v) = %d: they do not come from it", marks, casts, model)
		}
		for _, cast := range casts {
			if is := isHonest(t, marks, differing(casts, cast)); is != (model >= 0) {
				t.Fatalf("Model(%d, %v) = %d, but that they come from %d is %t", marks, casts, model, cast, is)
			}
		}
		if is := isHonest(t, marks, casts); is != (model == 0) {
			t.Fatalf("Model(%d, %v) = %d, but Honest = %t", marks, casts, model, is)
		}
	})
}

// P6.8, M6: casts come from a model just if the casts do that have the marks in which each one differs from any number.
func TestTurnedModels(t *testing.T) {
	eachCasts(func(s *series, marks int, casts []int) {
		turned := differing(casts, s.below(1<<marks))
		if a, b := modelOf(t, marks, casts), modelOf(t, marks, turned); (a < 0) != (b < 0) {
			t.Fatalf("Model(%d, %v) = %d, but Model of %v = %d", marks, casts, a, turned, b)
		}
	})
}

// eachHonest visits honest casts alone.
func eachHonest(t *testing.T, visit func(s *series, marks int, casts []int)) {
	number := 0
	eachCasts(func(s *series, marks int, casts []int) {
		if isHonest(t, marks, casts) {
			visit(s, marks, casts)
			number++
		}
	})
	if number < 1000 {
		t.Errorf("only %d times honest casts", number)
	}
}

// P6.9, M1, M2, M6: a path has all marks of a cast, each once, and no others; so the cast can be read from it.
func TestPathHasAllMarks(t *testing.T) {
	eachHonest(t, func(_ *series, marks int, casts []int) {
		for i, cast := range casts {
			path := pathOf(t, marks, casts, i)
			if castOf(path) != cast || len(path) != len(marksIn(cast)) {
				t.Fatalf("Path(%d, %v, %d) = %v", marks, casts, i, path)
			}
		}
	})
}

// P6.4, P6.9, M6: paths go along the origin.
func TestPathAlongOrigin(t *testing.T) {
	eachHonest(t, func(_ *series, marks int, casts []int) {
		origin := originOf(t, marks, casts)
		for i := range casts {
			before := -1
			for _, mark := range pathOf(t, marks, casts, i) {
				if origin[mark] != before {
					t.Fatalf("Path(%d, %v, %d) = %v, but Origin = %v", marks, casts, i, pathOf(t, marks, casts, i), origin)
				}
				before = mark
			}
		}
	})
}

// P6.9, M6: a cast with all marks of another one has a path that begins with that of the other one.
func TestPathBeginsWithPath(t *testing.T) {
	longer := 0
	eachHonest(t, func(_ *series, marks int, casts []int) {
		for a := range casts {
			for b := range casts {
				one, other := pathOf(t, marks, casts, a), pathOf(t, marks, casts, b)
				if casts[a]&casts[b] != casts[b] {
					continue
				}
				if len(one) < len(other) || !slices.Equal(one[:len(other)], other) {
					t.Fatalf("%d, %v: the path of %d is %v, that of %d is %v", marks, casts, a, one, b, other)
				}
				if len(other) > 0 && len(one) > len(other) {
					longer++
				}
			}
		}
	})
	if longer < 500 {
		t.Errorf("only %d paths go on where another one ends", longer)
	}
}

// P6.9, M6: the path up to Last is what both casts have in common.
func TestPathUpToLast(t *testing.T) {
	eachHonest(t, func(_ *series, marks int, casts []int) {
		for a := range casts {
			for b := range casts {
				last := lastOf(t, marks, casts, a, b)
				one, other := pathOf(t, marks, casts, a), pathOf(t, marks, casts, b)
				length := slices.Index(one, last) + 1
				if castOf(one[:length]) != casts[a]&casts[b] || !slices.Equal(one[:length], other[:length]) || (last < 0) != (length == 0) {
					t.Fatalf("%d, %v: Last of %d and %d = %d, their paths are %v and %v", marks, casts, a, b, last, one, other)
				}
				if back := lastOf(t, marks, casts, b, a); back != last {
					t.Fatalf("%d, %v: Last of %d and %d = %d, the other way round %d", marks, casts, a, b, last, back)
				}
			}
		}
	})
}

// P6.10, M3: nothing is left out just if casts are honest, and what is left is honest, but not if one more is left.
func TestLeftOutIsNeeded(t *testing.T) {
	eachCasts(func(_ *series, marks int, casts []int) {
		is, forged, worn := isHonest(t, marks, casts), forgedOf(t, marks, casts), wornOf(t, marks, casts)
		if is != (len(forged) == 0) || is != (len(worn) == 0) {
			t.Fatalf("%d, %v: Honest = %t, Forged = %v, Worn = %v", marks, casts, is, forged, worn)
		}
		if !isHonest(t, marks, without(casts, forged...)) || !isHonest(t, marks, unmarked(casts, worn...)) {
			t.Fatalf("%d, %v: Forged = %v, Worn = %v: what is left is not honest", marks, casts, forged, worn)
		}
		for i := range forged {
			if isHonest(t, marks, without(casts, without(forged, i)...)) {
				t.Fatalf("%d, %v: Forged = %v, but %d can stay", marks, casts, forged, forged[i])
			}
		}
		for i := range worn {
			if isHonest(t, marks, unmarked(casts, without(worn, i)...)) {
				t.Fatalf("%d, %v: Worn = %v, but %d can stay", marks, casts, worn, worn[i])
			}
		}
	})
}

// P6.10, M3: no fewer casts, and no fewer marks, can be left out.
func TestNoFewerLeftOut(t *testing.T) {
	some := allParts()
	eachCasts(func(_ *series, marks int, casts []int) {
		forged, worn := forgedOf(t, marks, casts), wornOf(t, marks, casts)
		for _, l := range some[len(casts)] {
			if len(l) < len(forged) && isHonest(t, marks, without(casts, l...)) {
				t.Fatalf("Forged(%d, %v) = %v, but %v can be left out", marks, casts, forged, l)
			}
		}
		for _, l := range some[marks] {
			if len(l) < len(worn) && isHonest(t, marks, unmarked(casts, l...)) {
				t.Fatalf("Worn(%d, %v) = %v, but %v can be left out", marks, casts, worn, l)
			}
		}
	})
}

// P6.10, M3: of three casts that prove a clash at least one has to be left out, and of the two marks one.
func TestProofsAreHit(t *testing.T) {
	some := allParts()
	hit := 0
	eachCasts(func(_ *series, marks int, casts []int) {
		accepted := proofs(marks, casts)
		for _, l := range append(some[len(casts)], forgedOf(t, marks, casts)) {
			if !isHonest(t, marks, without(casts, l...)) {
				continue
			}
			for _, p := range accepted {
				if !slices.Contains(l, p.both) && !slices.Contains(l, p.first) && !slices.Contains(l, p.second) {
					t.Fatalf("%d, %v: the casts %v can be left out, though %v is a proof", marks, casts, l, p)
				}
				hit++
			}
		}
		for _, l := range append(some[marks], wornOf(t, marks, casts)) {
			if !isHonest(t, marks, unmarked(casts, l...)) {
				continue
			}
			for _, p := range accepted {
				if !slices.Contains(l, p.one) && !slices.Contains(l, p.two) {
					t.Fatalf("%d, %v: the marks %v can be left out, though %v is a proof", marks, casts, l, p)
				}
			}
		}
	})
	if hit < 10000 {
		t.Errorf("only %d times a proof and casts that can be left out", hit)
	}
}

// renumbered returns casts whose marks have other numbers.
func renumbered(casts, numbers []int) []int {
	var l []int
	for _, cast := range casts {
		l = append(l, castOf(translated(marksIn(cast), numbers)))
	}
	return l
}

// translated returns the new numbers of old ones.
func translated(old, numbers []int) []int {
	var l []int
	for _, number := range old {
		l = append(l, numbers[number])
	}
	return l
}

// P6.11, M5: marks get other numbers. What is told in indices of casts does not depend on these numbers.
func TestMarksRenumbered(t *testing.T) {
	eachCasts(func(s *series, marks int, casts []int) {
		numbers := s.order(marks)
		other := renumbered(casts, numbers)
		if a, b := isHonest(t, marks, casts), isHonest(t, marks, other); a != b {
			t.Fatalf("%d, %v, %v: Honest = %t, %t", marks, casts, numbers, a, b)
		}
		if a, b := forgedOf(t, marks, casts), forgedOf(t, marks, other); !slices.Equal(a, b) {
			t.Fatalf("%d, %v, %v: Forged = %v, %v", marks, casts, numbers, a, b)
		}
		if a, b := wornOf(t, marks, casts), wornOf(t, marks, other); len(a) != len(b) {
			t.Fatalf("%d, %v, %v: Worn = %v, %v", marks, casts, numbers, a, b)
		}
		if a, b := modelOf(t, marks, casts), modelOf(t, marks, other); (a < 0) != (b < 0) {
			t.Fatalf("%d, %v, %v: Model = %d, %d", marks, casts, numbers, a, b)
		}
		for range min(marks, len(casts)) {
			one, two, both, first, second := s.below(marks), s.below(marks), s.below(len(casts)), s.below(len(casts)), s.below(len(casts))
			a := mould.Proves(marks, casts, one, two, both, first, second)
			if b := mould.Proves(marks, other, numbers[one], numbers[two], both, first, second); a != b {
				t.Fatalf("%d, %v, %v: Proves = %d, %d", marks, casts, numbers, a, b)
			}
		}
	})
}

// P6.11, M5: if no two marks are in just the same casts, the origin does not depend on the numbers of the marks that
// some cast has; and no path but for its numbers.
func TestOriginRenumbered(t *testing.T) {
	alike := func(casts []int, one, two int) bool {
		return having(casts, one) == having(casts, one, two) && having(casts, two) == having(casts, one, two)
	}
	number := 0
	eachHonest(t, func(s *series, marks int, casts []int) {
		for one := range marks {
			if slices.ContainsFunc(upTo(one), func(two int) bool { return having(casts, one) > 0 && alike(casts, one, two) }) {
				return
			}
		}
		numbers := s.order(marks)
		other := renumbered(casts, numbers)
		origin, moved := originOf(t, marks, casts), originOf(t, marks, other)
		for mark, after := range origin {
			want := after
			if after >= 0 {
				want = numbers[after]
			}
			if moved[numbers[mark]] != want {
				t.Fatalf("%d, %v, %v: Origin = %v, %v", marks, casts, numbers, origin, moved)
			}
		}
		for i := range casts {
			want := translated(pathOf(t, marks, casts, i), numbers)
			if l := pathOf(t, marks, other, i); !slices.Equal(l, want) {
				t.Fatalf("%d, %v, %v: Path of %d = %v, want %v", marks, casts, numbers, i, l, want)
			}
		}
		number++
	})
	if number < 500 {
		t.Errorf("only %d times honest casts whose marks are in different ones", number)
	}
}

// P6.11, M5: casts come in another order. What is told in marks does not depend on it.
func TestCastsMoved(t *testing.T) {
	eachCasts(func(s *series, marks int, casts []int) {
		places := s.order(len(casts))
		other := make([]int, len(casts))
		for i, place := range places {
			other[place] = casts[i]
		}
		if a, b := isHonest(t, marks, casts), isHonest(t, marks, other); a != b {
			t.Fatalf("%d, %v, %v: Honest = %t, %t", marks, casts, places, a, b)
		}
		if a, b := forgedOf(t, marks, casts), forgedOf(t, marks, other); len(a) != len(b) {
			t.Fatalf("%d, %v, %v: Forged = %v, %v", marks, casts, places, a, b)
		}
		if a, b := wornOf(t, marks, casts), wornOf(t, marks, other); !slices.Equal(a, b) {
			t.Fatalf("%d, %v, %v: Worn = %v, %v", marks, casts, places, a, b)
		}
		if a, b := modelOf(t, marks, casts), modelOf(t, marks, other); a != b {
			t.Fatalf("%d, %v, %v: Model = %d, %d", marks, casts, places, a, b)
		}
		one, two, e := mould.Why(marks, casts)
		if a, b, f := mould.Why(marks, other); a != one || b != two || e != f {
			t.Fatalf("%d, %v, %v: Why = %d, %d, %d, then %d, %d, %d", marks, casts, places, one, two, e, a, b, f)
		}
		if e == api.OK {
			return
		}
		if a, b := originOf(t, marks, casts), originOf(t, marks, other); !slices.Equal(a, b) {
			t.Fatalf("%d, %v, %v: Origin = %v, %v", marks, casts, places, a, b)
		}
		for i, place := range places {
			if a, b := pathOf(t, marks, casts, i), pathOf(t, marks, other, place); !slices.Equal(a, b) {
				t.Fatalf("%d, %v, %v: Path of %d = %v, then %v", marks, casts, places, i, a, b)
			}
			j := s.below(len(casts))
			if a, b := lastOf(t, marks, casts, i, j), lastOf(t, marks, other, place, places[j]); a != b {
				t.Fatalf("%d, %v, %v: Last of %d and %d = %d, then %d", marks, casts, places, i, j, a, b)
			}
		}
	})
}

// P6.12, M7: some of honest casts are honest.
func TestFewerCasts(t *testing.T) {
	some := allParts()
	eachHonest(t, func(_ *series, marks int, casts []int) {
		for _, l := range some[len(casts)] {
			if !isHonest(t, marks, without(casts, l...)) {
				t.Fatalf("%d, %v are honest, but not without %v", marks, casts, l)
			}
		}
	})
}

// P6.12, M7: with a cast once more, or with one that has only the first marks of a path, honest casts are honest, too.
func TestCastsAgain(t *testing.T) {
	number := 0
	eachHonest(t, func(s *series, marks int, casts []int) {
		if len(casts) == mould.MaxCasts {
			return
		}
		for i := range casts {
			path := pathOf(t, marks, casts, i)
			for length := range len(path) + 1 {
				more := slices.Insert(slices.Clone(casts), s.below(len(casts)+1), castOf(path[:length]))
				if !isHonest(t, marks, more) {
					t.Fatalf("%d, %v are honest, but not with the first %d of %v: %v", marks, casts, length, path, more)
				}
				number++
			}
		}
	})
	if number < 5000 {
		t.Errorf("only %d casts more", number)
	}
}

// P6.12, M7: a cast more makes Forged longer by at most one, and never shorter; neither does it make Worn shorter.
func TestCastMore(t *testing.T) {
	longer := 0
	eachCasts(func(s *series, marks int, casts []int) {
		if len(casts) == mould.MaxCasts {
			return
		}
		forged, worn := forgedOf(t, marks, casts), wornOf(t, marks, casts)
		for cast := range 1 << marks {
			more := slices.Insert(slices.Clone(casts), s.below(len(casts)+1), cast)
			l := forgedOf(t, marks, more)
			if len(l) < len(forged) || len(l) > len(forged)+1 {
				t.Fatalf("Forged(%d, %v) = %v, with one cast more, %v, it is %v", marks, casts, forged, more, l)
			}
			if l := wornOf(t, marks, more); len(l) < len(worn) {
				t.Fatalf("Worn(%d, %v) = %v, with one cast more, %v, it is %v", marks, casts, worn, more, l)
			}
			if modelOf(t, marks, casts) < 0 && modelOf(t, marks, more) >= 0 {
				t.Fatalf("%d, %v come from no model, but with one cast more, %v, they do", marks, casts, more)
			}
			longer += len(l) - len(forged)
		}
	})
	if longer < 500 {
		t.Errorf("only %d times Forged was longer", longer)
	}
}
