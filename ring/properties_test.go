package ring_test

import (
	"slices"
	"testing"

	"bellarmine/api"
	"bellarmine/ring"
)

func fewestOf(t *testing.T, forms int, f [][2]int) int {
	t.Helper()
	n, e := ring.Fewest(forms, f)
	if e != api.OK {
		t.Fatalf("Fewest(%d, %v) = %d, %d", forms, f, n, e)
	}
	return n
}

func countOf(t *testing.T, forms int, f [][2]int) int {
	t.Helper()
	n, e := ring.Count(forms, f)
	if e != api.OK {
		t.Fatalf("Count(%d, %v) = %d, %d", forms, f, n, e)
	}
	return n
}

func againstOf(t *testing.T, forms int, f [][2]int, order []int) []int {
	t.Helper()
	l, e := ring.Against(forms, f, order)
	if e != api.OK {
		t.Fatalf("Against(%d, %v, %v) = %v, %d", forms, f, order, l, e)
	}
	return l
}

func sureOf(t *testing.T, forms int, f [][2]int) [][2]int {
	t.Helper()
	l, e := ring.Sure(forms, f)
	if e != api.OK {
		t.Fatalf("Sure(%d, %v) = %v, %d", forms, f, l, e)
	}
	return l
}

func strikeOf(t *testing.T, forms int, f [][2]int) []int {
	t.Helper()
	l, e := ring.Strike(forms, f)
	if e != api.OK {
		t.Fatalf("Strike(%d, %v) = %v, %d", forms, f, l, e)
	}
	return l
}

func turnOf(t *testing.T, forms int, f [][2]int, which []int) [][2]int {
	t.Helper()
	l, e := ring.Turn(forms, f, which)
	if len(l) != len(f) || e != api.OK {
		t.Fatalf("Turn(%d, %v, %v) = %v, %d", forms, f, which, l, e)
	}
	return l
}

func apartOf(t *testing.T, forms int, f [][2]int) [][]int {
	t.Helper()
	l, e := ring.Apart(forms, f)
	if e != api.OK {
		t.Fatalf("Apart(%d, %v) = %v, %d", forms, f, l, e)
	}
	return l
}

// hasRing returns whether finds have a ring.
func hasRing(t *testing.T, forms int, f [][2]int) bool {
	t.Helper()
	l, e := ring.Ring(forms, f)
	if (e == api.OK) != (len(l) > 0) || e != api.OK && e != api.ErrClash {
		t.Fatalf("Ring(%d, %v) = %v, %d", forms, f, l, e)
	}
	return e == api.OK
}

// without returns finds without some of them.
func without(f [][2]int, indices ...int) [][2]int {
	var l [][2]int
	for i, find := range f {
		if !slices.Contains(indices, i) {
			l = append(l, find)
		}
	}
	return l
}

// noneKept returns whether finds can be struck out, and none of them could be kept.
func noneKept(t *testing.T, forms int, f [][2]int, struck []int) bool {
	t.Helper()
	if hasRing(t, forms, without(f, struck...)) {
		return false
	}
	for _, kept := range struck {
		others := slices.DeleteFunc(slices.Clone(struck), func(i int) bool { return i == kept })
		if !hasRing(t, forms, without(f, others...)) {
			return false
		}
	}
	return true
}

// P4.8, M3.
func TestStruckOut(t *testing.T) {
	all := allOrders()
	eachFinds(func(s *series, forms int, f [][2]int) {
		fewest, strike := fewestOf(t, forms, f), strikeOf(t, forms, f)
		if len(strike) != fewest || !noneKept(t, forms, f, strike) {
			t.Fatalf("%d, %v: Fewest = %d, Strike = %v", forms, f, fewest, strike)
		}
		for _, order := range s.orders(all[forms]) {
			wrong := againstOf(t, forms, f, order)
			if len(wrong) < fewest || hasRing(t, forms, without(f, wrong...)) {
				t.Fatalf("%d, %v: Fewest = %d, Against(%v) = %v", forms, f, fewest, order, wrong)
			}
		}
		best, _ := ring.Order(forms, f)
		if wrong := againstOf(t, forms, f, best); len(wrong) != fewest || slices.Compare(wrong, strike) < 0 {
			t.Fatalf("%d, %v: Fewest = %d, Strike = %v, Against(%v) = %v", forms, f, fewest, strike, best, wrong)
		}
	})
}

// eachStruck visits finds with all lists of finds that can be struck out, and none of them could be kept.
func eachStruck(t *testing.T, visit func(forms int, f [][2]int, struck []int)) {
	some := allParts()
	check := func(forms int, f [][2]int) {
		for _, struck := range some[len(f)] {
			if noneKept(t, forms, f, struck) {
				visit(forms, f, struck)
			}
		}
	}
	eachSmallFinds(check)
	eachMixedFinds(4, func(_ *series, forms int, f [][2]int) {
		if len(f) <= 7 {
			check(forms, f)
		}
	})
	check(3, slices.Repeat(finds(0, 1, 1, 2, 2, 0, 1, 0, 0, 2, 2, 1), 2))
	check(4, finds(0, 1, 1, 2, 2, 3, 3, 0, 0, 2, 2, 0, 1, 3, 3, 1, 1, 0, 2, 1))
	check(6, finds(0, 1, 1, 2, 2, 3, 3, 4, 4, 5, 5, 0, 2, 0, 5, 3))
}

// P4.8, M3: finds of which none could be kept are just what some order contradicts.
func TestNoneKeptIsAgainst(t *testing.T) {
	all := allOrders()
	eachStruck(t, func(forms int, f [][2]int, struck []int) {
		if !slices.ContainsFunc(all[forms], func(order []int) bool { return slices.Equal(againstOf(t, forms, f, order), struck) }) {
			t.Fatalf("%d, %v: no order contradicts just %v", forms, f, struck)
		}
	})
}

// P4.9.
func TestTurnedRound(t *testing.T) {
	turned := 0
	eachStruck(t, func(forms int, f [][2]int, struck []int) {
		other := turnOf(t, forms, f, struck)
		if hasRing(t, forms, other) || fewestOf(t, forms, other) != 0 {
			t.Fatalf("%d, %v: with %v turned round a ring is left: %v", forms, f, struck, other)
		}
		if len(struck) > 0 {
			turned++
		}
	})
	if turned < 1000 {
		t.Errorf("only %d lists of finds were turned round", turned)
	}
	eachFinds(func(_ *series, forms int, f [][2]int) {
		if strike := strikeOf(t, forms, f); hasRing(t, forms, turnOf(t, forms, f, strike)) {
			t.Fatalf("%d, %v: with %v turned round a ring is left", forms, f, strike)
		}
	})
}

// M6: what was turned can be turned back.
func TestTurnedBack(t *testing.T) {
	some := allParts()
	eachFinds(func(s *series, forms int, f [][2]int) {
		which := some[len(f)][s.below(len(some[len(f)]))]
		other := turnOf(t, forms, f, which)
		if back := turnOf(t, forms, other, which); !slices.Equal(back, f) {
			t.Fatalf("Turn(%d, %v, %v) = %v, turned back %v", forms, f, which, other, back)
		}
		if len(which) > 0 && slices.Equal(other, f) {
			t.Fatalf("Turn(%d, %v, %v) turns nothing", forms, f, which)
		}
	})
}

// P4.10, M4: reasons that are returned are accepted.
func TestRings(t *testing.T) {
	eachFinds(func(_ *series, forms int, f [][2]int) {
		first, e := ring.Ring(forms, f)
		fewest, apart := fewestOf(t, forms, f), apartOf(t, forms, f)
		if (fewest == 0) != (e == api.ErrClash) || (len(apart) == 0) != (e == api.ErrClash) || len(apart) > fewest {
			t.Fatalf("%d, %v: Fewest = %d, Ring = %v, %d, Apart = %v", forms, f, fewest, first, e, apart)
		}
		if e == api.OK && ring.Proves(forms, f, first) != api.OK {
			t.Fatalf("%d, %v: Ring = %v is not accepted", forms, f, first)
		}
		strike := strikeOf(t, forms, f)
		for i, r := range apart {
			if ring.Proves(forms, f, r) != api.OK || len(r) < len(first) || !share(r, strike) {
				t.Fatalf("%d, %v: Ring = %v, Strike = %v, Apart = %v", forms, f, first, strike, apart)
			}
			if i > 0 && slices.Compare(apart[i-1], r) >= 0 {
				t.Fatalf("%d, %v: Apart = %v does not ascend", forms, f, apart)
			}
			if slices.ContainsFunc(apart[:i], func(other []int) bool { return share(r, other) }) {
				t.Fatalf("%d, %v: Apart = %v has a find twice", forms, f, apart)
			}
		}
	})
}

// P4.10, M4: each ring that Proves accepts has a find in common with any finds that can be struck out.
func TestRingsAreHit(t *testing.T) {
	some := allParts()
	hit := 0
	check := func(forms int, f [][2]int) {
		for _, indices := range some[len(f)] {
			r, is := triedToRing(f, indices)
			if !is {
				continue
			}
			if e := ring.Proves(forms, f, r); e != api.OK {
				t.Fatalf("Proves(%d, %v, %v) = %d", forms, f, r, e)
			}
			for _, struck := range some[len(f)] {
				if !share(r, struck) && !hasRing(t, forms, without(f, struck...)) {
					t.Fatalf("%d, %v: %v can be struck out, though %v is a ring", forms, f, struck, r)
				}
			}
			hit++
		}
	}
	eachSmallFinds(check)
	eachMixedFinds(4, func(_ *series, forms int, f [][2]int) {
		if len(f) <= 7 {
			check(forms, f)
		}
	})
	if hit < 1000 {
		t.Errorf("only %d rings", hit)
	}
}

// P4.11, M2: each find is contradicted by one of two opposite orders, and by one only.
func TestHalves(t *testing.T) {
	all := allOrders()
	eachFinds(func(s *series, forms int, f [][2]int) {
		for _, order := range s.orders(all[forms]) {
			opposite := slices.Clone(order)
			slices.Reverse(opposite)
			both := append(againstOf(t, forms, f, order), againstOf(t, forms, f, opposite)...)
			slices.Sort(both)
			if !slices.Equal(both, upTo(len(f))) {
				t.Fatalf("%d, %v: the order %v and its opposite contradict %v", forms, f, order, both)
			}
		}
		if fewest := fewestOf(t, forms, f); 2*fewest > len(f) {
			t.Fatalf("Fewest(%d, %v) = %d is more than half", forms, f, fewest)
		}
	})
}

// renumbered returns finds whose forms have other numbers.
func renumbered(f [][2]int, numbers []int) [][2]int {
	var l [][2]int
	for _, find := range f {
		l = append(l, [2]int{numbers[find[0]], numbers[find[1]]})
	}
	return l
}

// P4.12, M5: forms get other numbers. What is told in indices of finds does not depend on these numbers.
func TestFormsRenumbered(t *testing.T) {
	eachFinds(func(s *series, forms int, f [][2]int) {
		numbers := s.order(forms)
		other := renumbered(f, numbers)
		if a, b := fewestOf(t, forms, f), fewestOf(t, forms, other); a != b {
			t.Fatalf("%d, %v, %v: Fewest = %d, %d", forms, f, numbers, a, b)
		}
		if a, b := countOf(t, forms, f), countOf(t, forms, other); a != b {
			t.Fatalf("%d, %v, %v: Count = %d, %d", forms, f, numbers, a, b)
		}
		sure := renumbered(sureOf(t, forms, f), numbers)
		slices.SortFunc(sure, func(a, b [2]int) int { return slices.Compare(a[:], b[:]) })
		if got := sureOf(t, forms, other); !slices.Equal(got, sure) {
			t.Fatalf("%d, %v, %v: Sure = %v, want %v", forms, f, numbers, got, sure)
		}
		if a, b := strikeOf(t, forms, f), strikeOf(t, forms, other); !slices.Equal(a, b) {
			t.Fatalf("%d, %v, %v: Strike = %v, %v", forms, f, numbers, a, b)
		}
		if a, b := apartOf(t, forms, f), apartOf(t, forms, other); !sameLists(a, b) {
			t.Fatalf("%d, %v, %v: Apart = %v, %v", forms, f, numbers, a, b)
		}
		a, e := ring.Ring(forms, f)
		if b, e2 := ring.Ring(forms, other); !slices.Equal(a, b) || e != e2 {
			t.Fatalf("%d, %v, %v: Ring = %v, %d, then %v, %d", forms, f, numbers, a, e, b, e2)
		}
		order := s.order(forms)
		var way []int
		for _, form := range order {
			way = append(way, numbers[form])
		}
		if a, b := againstOf(t, forms, f, order), againstOf(t, forms, other, way); !slices.Equal(a, b) {
			t.Fatalf("%d, %v, %v: Against = %v, %v", forms, f, numbers, a, b)
		}
	})
}

// P4.12, M5: finds come in another order. What is told in forms does not depend on it.
func TestFindsMoved(t *testing.T) {
	eachFinds(func(s *series, forms int, f [][2]int) {
		places := s.order(len(f))
		other := make([][2]int, len(f))
		for i, place := range places {
			other[place] = f[i]
		}
		if a, b := fewestOf(t, forms, f), fewestOf(t, forms, other); a != b || len(strikeOf(t, forms, other)) != b {
			t.Fatalf("%d, %v, %v: Fewest = %d, %d", forms, f, places, a, b)
		}
		if a, b := countOf(t, forms, f), countOf(t, forms, other); a != b {
			t.Fatalf("%d, %v, %v: Count = %d, %d", forms, f, places, a, b)
		}
		if a, b := sureOf(t, forms, f), sureOf(t, forms, other); !slices.Equal(a, b) {
			t.Fatalf("%d, %v, %v: Sure = %v, %v", forms, f, places, a, b)
		}
		if a, b := apartOf(t, forms, f), apartOf(t, forms, other); len(a) != len(b) {
			t.Fatalf("%d, %v, %v: Apart = %v, %v", forms, f, places, a, b)
		}
		first, e := ring.Order(forms, f)
		if got, e2 := ring.Order(forms, other); !slices.Equal(got, first) || e2 != e {
			t.Fatalf("%d, %v, %v: Order = %v, %d, then %v, %d", forms, f, places, first, e, got, e2)
		}
		a, e := ring.Ring(forms, f)
		if b, e2 := ring.Ring(forms, other); len(a) != len(b) || e != e2 {
			t.Fatalf("%d, %v, %v: Ring = %v, %d, then %v, %d", forms, f, places, a, e, b, e2)
		}
		order := s.order(forms)
		var moved []int
		for _, i := range againstOf(t, forms, f, order) {
			moved = append(moved, places[i])
		}
		slices.Sort(moved)
		if got := againstOf(t, forms, other, order); !slices.Equal(got, moved) {
			t.Fatalf("%d, %v, %v: Against = %v, want %v", forms, f, places, got, moved)
		}
	})
}

// P4.13, M7: one find more makes Fewest greater by at most 1, and never smaller; so it is with the rings that are apart.
func TestFindMore(t *testing.T) {
	eachFinds(func(_ *series, forms int, f [][2]int) {
		if len(f) == ring.MaxFinds {
			return
		}
		fewest, apart := fewestOf(t, forms, f), apartOf(t, forms, f)
		first, e := ring.Ring(forms, f)
		for _, find := range pairsOf(forms) {
			more := append(slices.Clone(f), find)
			if n := fewestOf(t, forms, more); n < fewest || n > fewest+1 {
				t.Fatalf("Fewest(%d, %v) = %d, with %v it is %d", forms, f, fewest, find, n)
			}
			if l := apartOf(t, forms, more); len(l) < len(apart) || len(l) > len(apart)+1 {
				t.Fatalf("Apart(%d, %v) = %v, with %v it is %v", forms, f, apart, find, l)
			}
			if l, e2 := ring.Ring(forms, more); e == api.OK && (e2 != api.OK || len(l) > len(first)) {
				t.Fatalf("Ring(%d, %v) = %v, with %v it is %v, %d", forms, f, first, find, l, e2)
			}
		}
	})
}

// P4.13, M7: what all best orders say anyway is contradicted by none of them, and a find struck out is one fewer.
func TestFindThatIsSure(t *testing.T) {
	eachFinds(func(_ *series, forms int, f [][2]int) {
		fewest, count := fewestOf(t, forms, f), countOf(t, forms, f)
		for _, i := range strikeOf(t, forms, f) {
			if n := fewestOf(t, forms, without(f, i)); n != fewest-1 {
				t.Fatalf("Fewest(%d, %v) = %d, without %d it is %d", forms, f, fewest, i, n)
			}
		}
		if len(f) == ring.MaxFinds {
			return
		}
		for _, pair := range sureOf(t, forms, f) {
			more := append(slices.Clone(f), pair)
			if n, c := fewestOf(t, forms, more), countOf(t, forms, more); n != fewest || c != count {
				t.Fatalf("%d, %v: Fewest = %d, Count = %d, with %v, which is sure, %d and %d", forms, f, fewest, count, pair, n, c)
			}
		}
	})
}
