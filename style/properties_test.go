package style_test

import (
	"slices"
	"testing"

	"bellarmine/api"
	"bellarmine/style"
)

func countOf(t *testing.T, f style.Finds) int {
	t.Helper()
	n, e := style.Count(f)
	if e != api.OK {
		t.Fatalf("Count(%v) = %d, %d", f, n, e)
	}
	return n
}

func gapsOf(t *testing.T, f style.Finds, order []int) int {
	t.Helper()
	n, e := style.Gaps(f, order)
	if is, e2 := style.Whole(f, order); is != (n == 0) || e != api.OK || e2 != api.OK {
		t.Fatalf("%v, %v: Gaps = %d, %d; Whole = %t, %d", f, order, n, e, is, e2)
	}
	return n
}

func datesOf(t *testing.T, f style.Finds, order []int) [][2]int {
	t.Helper()
	l, e := style.Dates(f, order)
	if len(l) != len(f.Forms) || e != api.OK {
		t.Fatalf("Dates(%v, %v) = %v, %d", f, order, l, e)
	}
	return l
}

func fewestOf(t *testing.T, f style.Finds) []int {
	t.Helper()
	l, e := style.Fewest(f)
	if e != api.OK {
		t.Fatalf("Fewest(%v) = %v, %d", f, l, e)
	}
	return l
}

// eachOrdered visits finds with orders of their layers: all orders of up to four layers, and some of more. The first
// order that fits is among them, if there is one.
func eachOrdered(visit func(s *series, f style.Finds, order []int)) {
	all := allOrders()
	eachFinds(func(s *series, f style.Finds) {
		if f.Layers <= 4 {
			for _, order := range all[f.Layers] {
				visit(s, f, order)
			}
			return
		}
		if first, e := style.First(f); e == api.OK {
			visit(s, f, first)
		}
		for range 10 {
			visit(s, f, s.order(f.Layers))
		}
	})
}

// P3.7, M4.
func TestTucker(t *testing.T) {
	lost, all := 0, 0
	eachFinds(func(_ *series, f style.Finds) {
		apart := false
		for _, three := range threes(f.Layers) {
			apart = apart || style.Proves(f, three[0], three[1], three[2]) == api.OK
		}
		count := countOf(t, f)
		first, e := style.First(f)
		if (count == 0) != apart || (e == api.ErrLost) != apart || (e == api.OK) == apart {
			t.Fatalf("%v: Count = %d, First = %v, %d, three layers are apart: %t", f, count, first, e, apart)
		}
		a, b, c, e := style.Why(f)
		if (e == api.OK) != apart || (e == api.ErrClash) == apart {
			t.Fatalf("%v: Why = %d, %d, %d, %d, three layers are apart: %t", f, a, b, c, e, apart)
		}
		if apart && (style.Proves(f, a, b, c) != api.OK || a >= b || b >= c) {
			t.Fatalf("%v: Why = %d, %d, %d is not accepted", f, a, b, c)
		}
		all++
		if apart {
			lost++
		}
	})
	if lost < all/8 || lost > 7*all/8 {
		t.Errorf("of %d finds, no order fits %d: they are too much alike", all, lost)
	}
}

// turned returns an order in the opposite direction.
func turned(order []int) []int {
	l := slices.Clone(order)
	slices.Reverse(l)
	return l
}

// P3.8, M5; M6: what is turned round and back is as it was.
func TestTurned(t *testing.T) {
	eachOrdered(func(_ *series, f style.Finds, order []int) {
		other := turned(order)
		if one, two := gapsOf(t, f, order), gapsOf(t, f, other); one != two {
			t.Fatalf("%v: Gaps(%v) = %d, Gaps(%v) = %d", f, order, one, other, two)
		}
		var back [][2]int
		for _, d := range datesOf(t, f, other) {
			back = append(back, [2]int{f.Layers - 1 - d[1], f.Layers - 1 - d[0]})
		}
		if dates := datesOf(t, f, order); !slices.Equal(dates, back) {
			t.Fatalf("%v: Dates(%v) = %v, turned back from %v: %v", f, order, dates, other, back)
		}
	})
	eachFinds(func(_ *series, f style.Finds) {
		if n := countOf(t, f); f.Layers > 1 && n%2 != 0 {
			t.Fatalf("Count(%v) = %d, though each order that fits does in two directions", f, n)
		}
	})
}

// M6: the dates of forms of one layer each tell the order from which they were found.
func TestDatesTellOrders(t *testing.T) {
	for n := 1; n <= style.MaxLayers; n++ {
		f := finds(n)
		for layer := range n {
			f = with(f, layer)
		}
		for _, order := range orders(n) {
			back := make([]int, n)
			for layer, d := range datesOf(t, f, order) {
				if d[0] != d[1] {
					t.Fatalf("Dates(%v, %v): %v of one layer", f, order, d)
				}
				back[d[0]] = layer
			}
			if !slices.Equal(back, order) {
				t.Fatalf("the dates of %v tell %v", order, back)
			}
		}
	}
}

// renumbered returns layers with other numbers, in the same order.
func renumbered(layers, numbers []int) []int {
	var l []int
	for _, layer := range layers {
		l = append(l, numbers[layer])
	}
	return l
}

// renumberedFinds returns finds whose layers have other numbers.
func renumberedFinds(f style.Finds, numbers []int) style.Finds {
	out := style.Finds{Layers: f.Layers}
	for _, form := range f.Forms {
		other := renumbered(form, numbers)
		slices.Sort(other)
		out.Forms = append(out.Forms, other)
	}
	return out
}

// P3.8, M5: layers get other numbers.
func TestRenumbered(t *testing.T) {
	eachOrdered(func(s *series, f style.Finds, order []int) {
		numbers := s.order(f.Layers)
		other, way := renumberedFinds(f, numbers), renumbered(order, numbers)
		if one, two := gapsOf(t, f, order), gapsOf(t, other, way); one != two {
			t.Fatalf("%v, %v: Gaps(%v) = %d, Gaps(%v) = %d", f, numbers, order, one, way, two)
		}
		if one, two := datesOf(t, f, order), datesOf(t, other, way); !slices.Equal(one, two) {
			t.Fatalf("%v, %v: Dates(%v) = %v, Dates(%v) = %v", f, numbers, order, one, way, two)
		}
	})
	eachFinds(func(s *series, f style.Finds) {
		numbers := s.order(f.Layers)
		other := renumberedFinds(f, numbers)
		if one, two := countOf(t, f), countOf(t, other); one != two {
			t.Fatalf("%v, %v: Count = %d, %d", f, numbers, one, two)
		}
		// The indices of forms do not depend on the numbers of the layers.
		if one, two := fewestOf(t, f), fewestOf(t, other); !slices.Equal(one, two) {
			t.Fatalf("%v, %v: Fewest = %v, %v", f, numbers, one, two)
		}
		var moved [][2]int
		beside, _ := style.Beside(f)
		for _, pair := range beside {
			a, b := numbers[pair[0]], numbers[pair[1]]
			moved = append(moved, [2]int{min(a, b), max(a, b)})
		}
		slices.SortFunc(moved, func(a, b [2]int) int { return slices.Compare(a[:], b[:]) })
		if got, _ := style.Beside(other); !slices.Equal(got, moved) {
			t.Fatalf("%v, %v: Beside = %v, want %v", f, numbers, got, moved)
		}
		for _, x := range threes(f.Layers) {
			one, two := style.Proves(f, x[0], x[1], x[2]), style.Proves(other, numbers[x[0]], numbers[x[1]], numbers[x[2]])
			if one != two {
				t.Fatalf("%v, %v: Proves(%v) = %d, %d", f, numbers, x, one, two)
			}
		}
	})
}

// M5: forms are told in another order.
func TestFormsMoved(t *testing.T) {
	eachFinds(func(s *series, f style.Finds) {
		other := style.Finds{Layers: f.Layers}
		numbers := s.order(len(f.Forms))
		for _, i := range numbers {
			other.Forms = append(other.Forms, f.Forms[i])
		}
		order := s.order(f.Layers)
		if one, two := gapsOf(t, f, order), gapsOf(t, other, order); one != two {
			t.Fatalf("%v, %v: Gaps = %d, %d", f, numbers, one, two)
		}
		one, two := datesOf(t, f, order), datesOf(t, other, order)
		for place, i := range numbers {
			if one[i] != two[place] {
				t.Fatalf("%v, %v: Dates = %v, %v", f, numbers, one, two)
			}
		}
		if one, two := fewestOf(t, f), fewestOf(t, other); len(one) != len(two) {
			t.Fatalf("%v, %v: Fewest = %v, %v", f, numbers, one, two)
		}
		first, e := style.First(f)
		if got, e2 := style.First(other); !slices.Equal(got, first) || e2 != e || countOf(t, f) != countOf(t, other) {
			t.Fatalf("%v, %v: First = %v, %d, then %v, %d, or Count differs", f, numbers, first, e, got, e2)
		}
		beside, e := style.Beside(f)
		if got, e2 := style.Beside(other); !slices.Equal(got, beside) || e2 != e {
			t.Fatalf("%v, %v: Beside = %v, %d, then %v, %d", f, numbers, beside, e, got, e2)
		}
		a, b, c, e := style.Why(f)
		if x, y, z, e2 := style.Why(other); x != a || y != b || z != c || e2 != e {
			t.Fatalf("%v, %v: Why = %d, %d, %d, %d, then %d, %d, %d, %d", f, numbers, a, b, c, e, x, y, z, e2)
		}
	})
}

// P3.9, M1: a pair as one more form changes nothing just if it is a pair of Beside.
func TestNextToOneAnother(t *testing.T) {
	eachFinds(func(_ *series, f style.Finds) {
		if len(f.Forms) == style.MaxForms {
			return
		}
		count := countOf(t, f)
		beside, _ := style.Beside(f)
		if !slices.IsSortedFunc(beside, func(a, b [2]int) int { return slices.Compare(a[:], b[:]) }) {
			t.Fatalf("Beside(%v) = %v does not ascend", f, beside)
		}
		for _, pair := range pairsOf(f.Layers) {
			more := countOf(t, with(f, pair[:]...))
			if slices.Contains(beside, pair) != (more == count && count != 0) {
				t.Fatalf("Beside(%v) = %v, and %v as one more form makes Count %d from %d", f, beside, pair, more, count)
			}
		}
	})
}

// P3.10, M7: a form less.
func TestFormLess(t *testing.T) {
	eachOrdered(func(_ *series, f style.Finds, order []int) {
		gaps := gapsOf(t, f, order)
		for i := range f.Forms {
			if less := gapsOf(t, without(f, i), order); less > gaps {
				t.Fatalf("%v: Gaps(%v) = %d, without %d it is %d", f, order, gaps, i, less)
			}
		}
	})
	eachFinds(func(_ *series, f style.Finds) {
		count, fewest := countOf(t, f), fewestOf(t, f)
		first, lost := style.First(f)
		beside, _ := style.Beside(f)
		for i := range f.Forms {
			less := without(f, i)
			if after := countOf(t, less); after < count {
				t.Fatalf("Count(%v) = %d, without %d it is %d", f, count, i, after)
			}
			if after := fewestOf(t, less); len(after) > len(fewest) || len(after) < len(fewest)-1 {
				t.Fatalf("Fewest(%v) = %v, without %d it is %v", f, fewest, i, after)
			}
			if lost != api.OK {
				continue
			}
			if after, e := style.First(less); e != api.OK || slices.Compare(after, first) > 0 {
				t.Fatalf("First(%v) = %v, without %d it is %v, %d", f, first, i, after, e)
			}
			if after, e := style.Beside(less); e != api.OK || slices.ContainsFunc(after, func(p [2]int) bool { return !slices.Contains(beside, p) }) {
				t.Fatalf("Beside(%v) = %v, without %d it is %v, %d", f, beside, i, after, e)
			}
		}
		if n := countOf(t, without(f, fewest...)); n == 0 {
			t.Fatalf("Fewest(%v) = %v, and no order fits without these", f, fewest)
		}
	})
}

// P3.10: forms of all layers, or of one, are whole in each order.
func TestAlwaysWhole(t *testing.T) {
	for n := 1; n <= style.MaxLayers; n++ {
		always := finds(n, upTo(n))
		for layer := range n {
			always = with(always, layer)
		}
		all := orders(n)
		for _, order := range all {
			if gaps := gapsOf(t, always, order); gaps != 0 {
				t.Fatalf("Gaps(%v, %v) = %d", always, order, gaps)
			}
		}
		if count := countOf(t, always); count != len(all) {
			t.Errorf("Count(%v) = %d, want %d", always, count, len(all))
		}
	}
	eachFinds(func(s *series, f style.Finds) {
		if len(f.Forms) == style.MaxForms {
			return
		}
		for _, form := range [][]int{upTo(f.Layers), {s.below(f.Layers)}} {
			if one, two := countOf(t, f), countOf(t, with(f, form...)); one != two {
				t.Fatalf("Count(%v) = %d, with %v it is %d", f, one, form, two)
			}
		}
	})
}

// P3.11, M2: nothing is lost, and nothing is counted twice: the gaps of the forms one by one are all gaps, and a form
// has none just if its dates leave no place free.
func TestGapsAndDates(t *testing.T) {
	eachOrdered(func(_ *series, f style.Finds, order []int) {
		sum := 0
		for i, d := range datesOf(t, f, order) {
			alone := finds(f.Layers, f.Forms[i])
			gaps := gapsOf(t, alone, order)
			if (gaps == 0) != (len(f.Forms[i]) == d[1]-d[0]+1) {
				t.Fatalf("%v, %v: the form %d has %d gaps and the dates %v", f, order, i, gaps, d)
			}
			if got := datesOf(t, alone, order); got[0] != d {
				t.Fatalf("%v, %v: the form %d has the dates %v, alone %v", f, order, i, d, got)
			}
			sum += gaps
		}
		if gaps := gapsOf(t, f, order); gaps != sum {
			t.Fatalf("Gaps(%v, %v) = %d, of the forms one by one %d", f, order, gaps, sum)
		}
	})
}

// P3.11, M1, M2: Count counts the orders without gaps, each once.
func TestCountIsOrdersWithoutGaps(t *testing.T) {
	all := allOrders()
	eachFinds(func(_ *series, f style.Finds) {
		if f.Layers > 5 {
			return
		}
		count := 0
		for _, order := range all[f.Layers] {
			if gapsOf(t, f, order) == 0 {
				count++
			}
		}
		if got := countOf(t, f); got != count {
			t.Fatalf("Count(%v) = %d, %d orders have no gaps", f, got, count)
		}
	})
}
