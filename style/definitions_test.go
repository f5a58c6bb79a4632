package style_test

import (
	"cmp"
	"slices"
	"testing"

	"bellarmine/api"
	"bellarmine/style"
)

// In this file the definitions of the chapter are spelt out by trying everything, and held against the functions.

// orders returns all lists of the numbers below n, each once, in ascending order.
func orders(n int) [][]int {
	all := [][]int{nil}
	for range n {
		var longer [][]int
		for _, some := range all {
			for number := range n {
				if !slices.Contains(some, number) {
					longer = append(longer, append(slices.Clone(some), number))
				}
			}
		}
		all = longer
	}
	return all
}

// parts returns all lists of some numbers below n, each of them in ascending order: the shorter ones first, of these
// the smaller ones first.
func parts(n int) [][]int {
	var all [][]int
	for set := range 1 << n {
		all = append(all, slices.DeleteFunc(upTo(n), func(number int) bool { return set&(1<<number) == 0 }))
	}
	slices.SortFunc(all, func(a, b []int) int { return cmp.Or(len(a)-len(b), slices.Compare(a, b)) })
	return all
}

// places returns the places of the layers of a form, in ascending order.
func places(form, order []int) []int {
	var l []int
	for _, layer := range form {
		l = append(l, slices.Index(order, layer))
	}
	slices.Sort(l)
	return l
}

func triedGaps(form, order []int) int {
	gaps, l := 0, places(form, order)
	for i := 1; i < len(l); i++ {
		if l[i] != l[i-1]+1 {
			gaps++
		}
	}
	return gaps
}

func triedFits(f style.Finds, order []int) bool {
	return !slices.ContainsFunc(f.Forms, func(form []int) bool { return triedGaps(form, order) > 0 })
}

// nextTo returns whether two layers are at places next to one another.
func nextTo(a, b int, order []int) bool {
	distance := slices.Index(order, a) - slices.Index(order, b)
	return distance == 1 || distance == -1
}

// triedChain returns whether a chain leads from one layer to another past a third one; the forms of it that are known
// so far are given by their indices.
func triedChain(f style.Finds, chain []int, from, to, past int) bool {
	for i, form := range f.Forms {
		if slices.Contains(chain, i) || slices.Contains(form, past) {
			continue
		}
		if len(chain) == 0 && !slices.Contains(form, from) {
			continue
		}
		if len(chain) > 0 && !slices.ContainsFunc(f.Forms[chain[len(chain)-1]], func(l int) bool { return slices.Contains(form, l) }) {
			continue
		}
		if slices.Contains(form, to) || triedChain(f, append(slices.Clone(chain), i), from, to, past) {
			return true
		}
	}
	return false
}

func triedApart(f style.Finds, a, b, c int) bool {
	return triedChain(f, nil, a, b, c) && triedChain(f, nil, b, c, a) && triedChain(f, nil, c, a, b)
}

// without returns finds without some forms.
func without(f style.Finds, indices ...int) style.Finds {
	out := style.Finds{Layers: f.Layers}
	for i, form := range f.Forms {
		if !slices.Contains(indices, i) {
			out.Forms = append(out.Forms, form)
		}
	}
	return out
}

// with returns finds with one more form.
func with(f style.Finds, form ...int) style.Finds {
	return style.Finds{Layers: f.Layers, Forms: append(slices.Clone(f.Forms), form)}
}

// someFit returns whether some order fits.
func someFit(f style.Finds, all [][]int) bool {
	return slices.ContainsFunc(all, func(order []int) bool { return triedFits(f, order) })
}

func triedFewest(f style.Finds, all [][]int) []int {
	for _, indices := range parts(len(f.Forms)) {
		if someFit(without(f, indices...), all) {
			return indices
		}
	}
	return nil
}

// eachSmallFinds visits all finds of one to three layers whose forms are all different and ascend, and those of four
// layers with at most three such forms.
func eachSmallFinds(visit func(f style.Finds)) {
	for n := 1; n <= 4; n++ {
		possible := parts(n)[1:]
		for _, indices := range parts(len(possible)) {
			if n == 4 && len(indices) > 3 {
				break
			}
			f := style.Finds{Layers: n}
			for _, i := range indices {
				f.Forms = append(f.Forms, possible[i])
			}
			visit(f)
		}
	}
}

// series is a row of numbers: always the same one for the same start.
type series uint32

func (s *series) below(n int) int {
	*s = *s*1664525 + 1013904223
	return int(*s>>16) % n
}

// order returns a list of the numbers below n, each once.
func (s *series) order(n int) []int {
	l := upTo(n)
	for i := range l {
		j := i + s.below(n-i)
		l[i], l[j] = l[j], l[i]
	}
	return l
}

// span returns a form that is whole in an order.
func (s *series) span(order []int) []int {
	from := s.below(len(order))
	form := slices.Clone(order[from : from+1+s.below(len(order)-from)])
	slices.Sort(form)
	return form
}

// mixed returns finds of n layers with some forms: most of them are whole in one order, and of the rest there are more
// if the finds are wilder, which is a number of tenths.
func (s *series) mixed(n, forms, wilder int) style.Finds {
	f, order := style.Finds{Layers: n}, s.order(n)
	for range forms {
		form := s.span(order)
		if s.below(10) < wilder {
			form = s.order(n)[:min(n, 2+s.below(3))]
			slices.Sort(form)
		}
		f.Forms = append(f.Forms, form)
	}
	return f
}

// eachMixedFinds visits finds of n layers with all numbers of forms, with a series for what is needed besides.
func eachMixedFinds(n, times int, visit func(s *series, f style.Finds)) {
	for number := range times {
		s := series(1000*n + number)
		for forms := range style.MaxForms + 1 {
			visit(&s, s.mixed(n, forms, []int{1, 4, 10}[number%3]))
		}
	}
}

// eachFinds visits all small finds, and some of four to seven layers.
func eachFinds(visit func(s *series, f style.Finds)) {
	small := series(1)
	eachSmallFinds(func(f style.Finds) { visit(&small, f) })
	for n, times := range []int{4: 21, 5: 21, 6: 9, 7: 6} {
		eachMixedFinds(n, times, visit)
	}
}

// allOrders returns for each number of layers all orders.
func allOrders() [style.MaxLayers + 1][][]int {
	var all [style.MaxLayers + 1][][]int
	for n := range all {
		all[n] = orders(n)
	}
	return all
}

// P3.2.
func TestOrdersAsDefined(t *testing.T) {
	all := allOrders()
	check := func(f style.Finds, order []int) {
		gaps, whole := 0, true
		var dates [][2]int
		for _, form := range f.Forms {
			gaps += triedGaps(form, order)
			whole = whole && triedGaps(form, order) == 0
			l := places(form, order)
			dates = append(dates, [2]int{l[0], l[len(l)-1]})
		}
		if got, e := style.Whole(f, order); got != whole || e != api.OK {
			t.Fatalf("Whole(%v, %v) = %t, %d, want %t", f, order, got, e, whole)
		}
		if got, e := style.Gaps(f, order); got != gaps || e != api.OK {
			t.Fatalf("Gaps(%v, %v) = %d, %d, want %d", f, order, got, e, gaps)
		}
		if got, e := style.Dates(f, order); !slices.Equal(got, dates) || e != api.OK {
			t.Fatalf("Dates(%v, %v) = %v, %d, want %v", f, order, got, e, dates)
		}
	}
	eachFinds(func(s *series, f style.Finds) {
		if f.Layers <= 4 {
			for _, order := range all[f.Layers] {
				check(f, order)
			}
			return
		}
		for range 50 {
			check(f, s.order(f.Layers))
		}
	})
}

// P3.3, P3.4; M1: all orders and all pairs, and nothing else; M3: no order that fits is smaller than the first one.
func TestFitsAsDefined(t *testing.T) {
	all := allOrders()
	eachFinds(func(_ *series, f style.Finds) {
		var fit [][]int
		for _, order := range all[f.Layers] {
			if triedFits(f, order) {
				fit = append(fit, order)
			}
		}
		var first []int
		var beside [][2]int
		want := api.ErrLost
		if len(fit) > 0 {
			first, want = fit[0], api.OK
			for _, pair := range pairsOf(f.Layers) {
				if !slices.ContainsFunc(fit, func(order []int) bool { return !nextTo(pair[0], pair[1], order) }) {
					beside = append(beside, pair)
				}
			}
		}
		if got, e := style.First(f); !slices.Equal(got, first) || e != want {
			t.Fatalf("First(%v) = %v, %d, want %v, %d", f, got, e, first, want)
		}
		if got, e := style.Count(f); got != len(fit) || e != api.OK {
			t.Fatalf("Count(%v) = %d, %d, want %d", f, got, e, len(fit))
		}
		if got, e := style.Beside(f); !slices.Equal(got, beside) || e != want {
			t.Fatalf("Beside(%v) = %v, %d, want %v, %d", f, got, e, beside, want)
		}
	})
}

// pairsOf returns all pairs of n layers, the smaller one first.
func pairsOf(n int) [][2]int {
	var l [][2]int
	for a := range n {
		for b := a + 1; b < n; b++ {
			l = append(l, [2]int{a, b})
		}
	}
	return l
}

// threes returns all lists of three different numbers below n, also those that do not ascend.
func threes(n int) [][3]int {
	var l [][3]int
	for a := range n {
		for b := range n {
			for c := range n {
				if a != b && b != c && a != c {
					l = append(l, [3]int{a, b, c})
				}
			}
		}
	}
	return l
}

// P3.5; P3.7, M4: some order fits just if no three layers are apart; what Why returns is accepted, and no other reasons
// than right ones are.
func TestApartAsDefined(t *testing.T) {
	all := allOrders()
	eachFinds(func(_ *series, f style.Finds) {
		var first [3]int
		found := false
		for _, three := range threes(f.Layers) {
			want := api.ErrProof
			if triedApart(f, three[0], three[1], three[2]) {
				want = api.OK
			}
			if e := style.Proves(f, three[0], three[1], three[2]); e != want {
				t.Fatalf("Proves(%v, %v) = %d, want %d", f, three, e, want)
			}
			if want == api.OK && !found && three[0] < three[1] && three[1] < three[2] {
				first, found = three, true
			}
		}
		fits := someFit(f, all[f.Layers])
		if fits == found {
			t.Fatalf("%v: some order fits: %t; three layers are apart: %t", f, fits, found)
		}
		want := api.OK
		if fits {
			want = api.ErrClash
		}
		if a, b, c, e := style.Why(f); [3]int{a, b, c} != first || e != want {
			t.Fatalf("Why(%v) = %d, %d, %d, %d, want %v, %d", f, a, b, c, e, first, want)
		}
	})
}

// P3.6; M3: no list of forms to leave out is shorter, and none that is as short is smaller.
func TestFewestAsDefined(t *testing.T) {
	all := allOrders()
	check := func(_ *series, f style.Finds) {
		want := triedFewest(f, all[f.Layers])
		if got, e := style.Fewest(f); !slices.Equal(got, want) || e != api.OK {
			t.Fatalf("Fewest(%v) = %v, %d, want %v", f, got, e, want)
		}
	}
	eachSmallFinds(func(f style.Finds) { check(nil, f) })
	for n, times := range []int{3: 8, 4: 8, 5: 8, 6: 4} {
		eachMixedFinds(n, times, check)
	}
	eachMixedFinds(7, 2, check)
}
