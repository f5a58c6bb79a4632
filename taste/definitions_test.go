package taste_test

import (
	"iter"
	"slices"
	"testing"

	"bellarmine/api"
	"bellarmine/taste"
)

// In this file the definitions of the chapter are spelt out, by trying everything where they ask for the best, and held
// against the functions.

func triedCost(b book, one, other int) int {
	cost := 0
	for good := range b.goods {
		cost += b.sales[one].Prices[good] * b.sales[other].Taken[good]
	}
	return cost
}

func triedAsGood(b book, one, other int) bool {
	return triedCost(b, one, one) >= triedCost(b, one, other)
}

func triedBetter(b book, one, other int) bool {
	return triedCost(b, one, one) > triedCost(b, one, other)
}

// triedPairs goes through all pairs in ascending order.
func triedPairs(b book, shows func(b book, one, other int) bool) [][2]int {
	var all [][2]int
	for both := range eachChoice(2, len(b.sales)) {
		if shows(b, both[0], both[1]) {
			all = append(all, [2]int{both[0], both[1]})
		}
	}
	return all
}

// leads returns whether each of some sales shows its choice to be as good as that of the next one.
func leads(b book, chain []int) bool {
	for i := range len(chain) - 1 {
		if !triedAsGood(b, chain[i], chain[i+1]) {
			return false
		}
	}
	return true
}

// rises returns whether one of some sales shows its choice to be better than that of the next one.
func rises(b book, chain []int) bool {
	for i := range len(chain) - 1 {
		if triedBetter(b, chain[i], chain[i+1]) {
			return true
		}
	}
	return false
}

// differ returns whether no two numbers are the same.
func differ(numbers []int) bool {
	sorted := slices.Sorted(slices.Values(numbers))
	return len(slices.Compact(sorted)) == len(numbers)
}

// isRing returns whether sales are a ring, told from its smallest index on.
func isRing(b book, ring []int) bool {
	if len(ring) == 0 || ring[0] != slices.Min(ring) || !differ(ring) {
		return false
	}
	around := append(slices.Clone(ring), ring[0])
	return leads(b, around) && rises(b, around)
}

// eachList yields all lists of so many numbers below a bound, in ascending order. They have the same memory.
func eachList(length, bound int) iter.Seq[[]int] {
	return func(yield func([]int) bool) {
		l := make([]int, length)
		for {
			if length > 0 && bound == 0 || !yield(l) {
				return
			}
			at := length - 1
			for ; at >= 0 && l[at] == bound-1; at-- {
				l[at] = 0
			}
			if at < 0 {
				return
			}
			l[at]++
		}
	}
}

// eachChoice yields all lists of so many different numbers below a bound, in ascending order. They have the same memory.
func eachChoice(length, bound int) iter.Seq[[]int] {
	var more func(l []int, yield func([]int) bool) bool
	more = func(l []int, yield func([]int) bool) bool {
		if len(l) == length {
			return yield(l)
		}
		for number := range bound {
			if !slices.Contains(l, number) && !more(append(l, number), yield) {
				return false
			}
		}
		return true
	}
	return func(yield func([]int) bool) { more(make([]int, 0, length), yield) }
}

// eachOrder yields all lists of different sales, also the empty one: the shorter ones first, then in ascending order.
func eachOrder(b book) iter.Seq[[]int] {
	return func(yield func([]int) bool) {
		for length := range len(b.sales) + 1 {
			for l := range eachChoice(length, len(b.sales)) {
				if !yield(l) {
					return
				}
			}
		}
	}
}

// triedLeast returns the first one of the shortest lists from a sale to another one, and whether there is one.
func triedLeast(b book, from, to int) ([]int, bool) {
	for chain := range eachOrder(b) {
		if len(chain) > 0 && chain[0] == from && chain[len(chain)-1] == to && leads(b, chain) {
			return slices.Clone(chain), true
		}
	}
	return nil, false
}

// triedRing returns the first one of the shortest rings, and whether there is one.
func triedRing(b book) ([]int, bool) {
	for ring := range eachOrder(b) {
		if isRing(b, ring) {
			return slices.Clone(ring), true
		}
	}
	return nil, false
}

// others returns the sales that are not in a list.
func (b book) others(out []int) []int {
	return slices.DeleteFunc(upTo(len(b.sales)), func(sale int) bool { return slices.Contains(out, sale) })
}

func triedWrong(b book) []int {
	for out := range eachOrder(b) {
		if !slices.IsSorted(out) {
			continue
		}
		if _, clash := triedRing(b.some(b.others(out))); !clash {
			return slices.Clone(out)
		}
	}
	return nil
}

func triedRanks(b book) []int {
	ranks := make([]int, len(b.sales))
	for one := range ranks {
		for other := range ranks {
			if one != other && isAbove(b, one, other) {
				ranks[one]++
			}
		}
	}
	return ranks
}

// isAbove returns whether a list leads from a sale to another one in which one sale shows its choice to be better.
func isAbove(b book, one, other int) bool {
	for chain := range eachOrder(b) {
		if len(chain) > 0 && chain[0] == one && chain[len(chain)-1] == other && leads(b, chain) && rises(b, chain) {
			return true
		}
	}
	return false
}

// areNumbers returns whether worth and weight are numbers.
func areNumbers(b book, worth, weight []int) bool {
	for both := range eachList(2, len(b.sales)) {
		one, other := both[0], both[1]
		if worth[other] > worth[one]+weight[one]*(triedCost(b, one, other)-triedCost(b, one, one)) {
			return false
		}
	}
	return true
}

// series is a row of numbers: always the same one for the same start.
type series uint32

func (s *series) below(n int) int {
	*s = *s*1664525 + 1013904223
	return int(*s>>16) % n
}

// order returns a list of the numbers below n, each once.
func (s *series) order(n int) []int {
	l := upTo(n)
	for i := range l {
		j := i + s.below(n-i)
		l[i], l[j] = l[j], l[i]
	}
	return l
}

// list returns so many numbers, from a lowest one to a highest one.
func (s *series) list(length, lowest, highest int) []int {
	var numbers []int
	for range length {
		numbers = append(numbers, lowest+s.below(highest-lowest+1))
	}
	return numbers
}

// wild returns any sales with prices and numbers up to given ones.
func (s *series) wild(goods, sales, price, taken int) book {
	b := book{goods: goods}
	for range sales {
		b.sales = append(b.sales, taste.Sale{Prices: s.list(goods, 1, price), Taken: s.list(goods, 0, taken)})
	}
	return b
}

// even returns sales at which as many were taken of all goods together, at prices of which most are the same.
func (s *series) even(goods, sales, taken int) book {
	b := s.wild(goods, sales, 1, 0)
	for i := range b.sales {
		for range taken {
			b.sales[i].Taken[s.below(goods)]++
		}
		if s.below(3) == 0 {
			b.sales[i].Prices[s.below(goods)] = 1 + s.below(2)
		}
	}
	return b
}

// around returns sales that are nearly a long ring, or a long row: told in another order, without one or with one twice, or
// changed.
func (s *series) around() book {
	all := []book{aroundThree(), aroundFour(), aroundFive(), aroundSix(), aroundOnce(), downLate(), downEarly()}
	b := copyOf(all[s.below(len(all))])
	kept := s.order(len(b.sales))
	switch s.below(4) {
	case 0:
		kept = kept[1:]
	case 1:
		kept = append(kept[:min(len(kept), 5)], kept[0])
	}
	b = copyOf(b.some(kept))
	if s.below(2) == 0 {
		b.sales[s.below(len(b.sales))].Prices[s.below(b.goods)] = 1 + s.below(taste.MaxPrice)
	}
	if s.below(3) == 0 {
		b.sales[s.below(len(b.sales))].Taken[s.below(b.goods)] = s.below(taste.MaxTaken + 1)
	}
	return b
}

// dear returns sales of a collector who takes about as many of a good as it costs.
func (s *series) dear(goods, sales int) book {
	b := s.wild(goods, sales, taste.MaxPrice, 0)
	for _, sale := range b.sales {
		for good, price := range sale.Prices {
			sale.Taken[good] = max(0, price-s.below(3))
		}
	}
	return b
}

// chosen returns sales of a collector of one taste, who likes one bundle best of those that are not too dear, and of
// several the cheapest one. More of a good is sometimes not better.
func (s *series) chosen(goods, sales int) book {
	b := s.wild(goods, sales, taste.MaxPrice, 0)
	likes, enough := s.list(goods, 0, 3), s.list(goods, 1, 4)
	for _, sale := range b.sales {
		money := s.below(50)
		best, spent := -1, 0
		for taken := range eachList(goods, 5) {
			joy, cost := 0, 0
			for good, n := range taken {
				joy += likes[good] * min(n, enough[good])
				cost += sale.Prices[good] * n
			}
			if cost <= money && (joy > best || joy == best && cost < spent) {
				best, spent = joy, cost
				copy(sale.Taken, taken)
			}
		}
	}
	return b
}

// any returns sales of one of these kinds.
func (s *series) any() book {
	goods, sales := 1+s.below(taste.MaxGoods), s.below(taste.MaxSales+1)
	switch s.below(7) {
	case 0:
		return s.wild(goods, sales, 1+s.below(taste.MaxPrice), s.below(taste.MaxTaken+1))
	case 1:
		return s.wild(2+s.below(2), 3+s.below(4), 3, 3)
	case 2:
		return s.even(2+s.below(2), 2+s.below(5), 1+s.below(4))
	case 3:
		return s.chosen(goods, sales)
	case 4:
		return s.dear(2+s.below(2), 3+s.below(4))
	default:
		return s.around()
	}
}

// eachSmall visits all sales of one good, up to three of them, and of two goods, up to three of them, with small numbers.
func eachSmall(visit func(s *series, b book)) {
	s := series(1)
	visit(&s, book{goods: 3})
	for _, x := range []struct{ goods, sales, price, taken int }{{1, 1, 2, 2}, {1, 2, 2, 2}, {1, 3, 2, 2}, {2, 1, 2, 2}, {2, 2, 2, 2}, {2, 3, 2, 1}} {
		var kinds []taste.Sale
		for prices := range eachList(x.goods, x.price) {
			for taken := range eachList(x.goods, x.taken+1) {
				sale := taste.Sale{Taken: slices.Clone(taken)}
				for _, price := range prices {
					sale.Prices = append(sale.Prices, 1+price)
				}
				kinds = append(kinds, sale)
			}
		}
		for sales := range eachList(x.sales, len(kinds)) {
			visit(&s, book{x.goods, kinds}.some(sales))
		}
	}
}

// eachMixed visits so many sales of a fixed series.
func eachMixed(number int, visit func(s *series, b book)) {
	s := series(7)
	for range number {
		visit(&s, s.any())
	}
}

// eachBook visits small sales, sales of a fixed series, and those that are known.
func eachBook(visit func(s *series, b book)) {
	eachSmall(visit)
	eachMixed(2000, visit)
	s := series(3)
	for _, x := range append(allKnown(), ringsKnown()...) {
		visit(&s, x.book)
	}
}

// P10.1, P10.2, M1: costs, and what they show.
func TestShowsAsDefined(t *testing.T) {
	asGoodOnly := 0
	eachBook(func(_ *series, b book) {
		for both := range eachList(2, len(b.sales)) {
			if n, e := taste.Cost(b.goods, b.sales, both[0], both[1]); n != triedCost(b, both[0], both[1]) || e != api.OK {
				t.Fatalf("%v: Cost(%v) = %d, %d", b, both, n, e)
			}
		}
		shows, better := triedPairs(b, triedAsGood), triedPairs(b, triedBetter)
		if l, e := taste.Shows(b.goods, b.sales); !slices.Equal(l, shows) || e != api.OK {
			t.Fatalf("Shows(%v) = %v, %d, want %v", b, l, e, shows)
		}
		if l, e := taste.Better(b.goods, b.sales); !slices.Equal(l, better) || e != api.OK {
			t.Fatalf("Better(%v) = %v, %d, want %v", b, l, e, better)
		}
		asGoodOnly += len(shows) - len(better)
	})
	if asGoodOnly < 1000 {
		t.Errorf("only %d pairs as good and not better", asGoodOnly)
	}
}

// P10.3, M3: the shortest list, and the first one of several.
func TestLeastAsDefined(t *testing.T) {
	lengths := make([]int, taste.MaxSales+1)
	eachBook(func(_ *series, b book) {
		for from := range b.sales {
			for to := range b.sales {
				want, is := triedLeast(b, from, to)
				l, e := taste.Least(b.goods, b.sales, from, to)
				if !slices.Equal(l, want) || is != (e == api.OK) || !is && e != api.ErrLost {
					t.Fatalf("%v: Least(%d, %d) = %v, %d, want %v", b, from, to, l, e, want)
				}
				lengths[len(want)]++
			}
		}
	})
	if slices.Min(lengths) < 100 {
		t.Errorf("lists by length: %v: too few", lengths)
	}
}

// P10.4, M3: whether there is a ring, and the first one of the shortest ones.
func TestRingAsDefined(t *testing.T) {
	lengths := make([]int, taste.MaxSales+1)
	eachBook(func(_ *series, b book) {
		want, clash := triedRing(b)
		if is, e := taste.Taste(b.goods, b.sales); is == clash || e != api.OK {
			t.Fatalf("Taste(%v) = %t, %d, but the first ring is %v", b, is, e, want)
		}
		ring, e := taste.Ring(b.goods, b.sales)
		if !slices.Equal(ring, want) || clash != (e == api.OK) || !clash && e != api.ErrClash {
			t.Fatalf("Ring(%v) = %v, %d, want %v", b, ring, e, want)
		}
		lengths[len(want)]++
	})
	if slices.Min(lengths[2:]) < 20 {
		t.Errorf("rings by length: %v: too few", lengths)
	}
}

// triedProves goes along the numbers of a list.
func triedProves(b book, ring []int) api.Errno {
	for i, sale := range ring {
		if !slices.Contains(upTo(len(b.sales)), sale) {
			return api.ErrNone
		}
		if slices.Contains(ring[:i], sale) {
			return api.ErrTwice
		}
	}
	if !isRing(b, ring) {
		return api.ErrProof
	}
	return api.OK
}

// P10.4, M4: what is a ring is accepted, and nothing else.
func TestProvesAsDefined(t *testing.T) {
	proofs, number := map[api.Errno]int{}, 0
	check := func(b book, ring []int) {
		want := triedProves(b, ring)
		if e := taste.Proves(b.goods, b.sales, ring); e != want {
			t.Fatalf("%v: Proves(%v) = %d, want %d", b, ring, e, want)
		}
		proofs[want]++
	}
	eachBook(func(_ *series, b book) {
		number++
		if number%11 == 0 || len(b.sales) > 3 && number%3 == 0 {
			for ring := range eachOrder(b) {
				check(b, ring)
			}
		}
		if number%41 != 0 {
			return
		}
		for length := range 4 {
			for ring := range eachList(length, len(b.sales)+2) {
				for i := range ring {
					ring[i]--
				}
				check(b, ring)
				for i := range ring {
					ring[i]++
				}
			}
		}
	})
	if min(proofs[api.OK], proofs[api.ErrNone], proofs[api.ErrTwice], proofs[api.ErrProof]) < 1000 {
		t.Errorf("proofs by error: %v: too few", proofs)
	}
}

// P10.5, M4: there are numbers just if there is no ring, and they are numbers as defined, within their bounds.
func TestNumbersAsDefined(t *testing.T) {
	clashes := 0
	eachBook(func(_ *series, b book) {
		_, clash := triedRing(b)
		worth, weight, e := taste.Numbers(b.goods, b.sales)
		if clash {
			clashes++
			if len(worth)+len(weight) > 0 || e != api.ErrClash {
				t.Fatalf("Numbers(%v) = %v, %v, %d, want ErrClash", b, worth, weight, e)
			}
			return
		}
		if e != api.OK || len(worth) != len(b.sales) || len(weight) != len(b.sales) || !areNumbers(b, worth, weight) {
			t.Fatalf("Numbers(%v) = %v, %v, %d", b, worth, weight, e)
		}
		if len(worth) > 0 && (slices.Min(worth) < 0 || slices.Min(weight) < 1 || max(slices.Max(worth), slices.Max(weight)) > taste.MaxWorth) {
			t.Fatalf("Numbers(%v) = %v, %v: out of their bounds", b, worth, weight)
		}
	})
	if clashes < 500 {
		t.Errorf("only %d sales are not of one taste", clashes)
	}
}

// P10.5, M4: what are numbers is accepted, and nothing else.
func TestAgreesAsDefined(t *testing.T) {
	proofs := map[api.Errno]int{}
	check := func(b book, worth, weight []int) {
		want := api.ErrProof
		if areNumbers(b, worth, weight) {
			want = api.OK
		}
		if e := taste.Agrees(b.goods, b.sales, worth, weight); e != want {
			t.Fatalf("%v: Agrees(%v, %v) = %d, want %d", b, worth, weight, e, want)
		}
		proofs[want]++
	}
	eachBook(func(s *series, b book) {
		n := len(b.sales)
		check(b, s.list(n, 0, 3), s.list(n, 1, 3))
		worth, weight, e := taste.Numbers(b.goods, b.sales)
		if e != api.OK || n == 0 {
			return
		}
		check(b, worth, weight)
		for range 6 {
			otherWorth, otherWeight := slices.Clone(worth), slices.Clone(weight)
			sale := s.below(n)
			otherWorth[sale] = max(0, otherWorth[sale]+s.below(5)-2)
			check(b, otherWorth, otherWeight)
			sale = s.below(n)
			otherWeight[sale] = max(1, otherWeight[sale]/2, otherWeight[sale]+s.below(5)-2)
			check(b, worth, otherWeight)
			check(b, otherWorth, otherWeight)
		}
	})
	if min(proofs[api.OK], proofs[api.ErrProof]) < 5000 {
		t.Errorf("numbers by error: %v: too few", proofs)
	}
}

// P10.6, M3: as few as possible, and of several lists the first one.
func TestWrongAsDefined(t *testing.T) {
	lengths := make([]int, 4)
	eachBook(func(_ *series, b book) {
		want := triedWrong(b)
		if l, e := taste.Wrong(b.goods, b.sales); !slices.Equal(l, want) || e != api.OK {
			t.Fatalf("Wrong(%v) = %v, %d, want %v", b, l, e, want)
		}
		lengths[min(len(want), 3)]++
	})
	if slices.Min(lengths) < 20 {
		t.Errorf("sales by how many are wrong: %v: too few", lengths)
	}
}

// P10.7, M1: how many others each choice is better than.
func TestRanksAsDefined(t *testing.T) {
	number := make([]int, taste.MaxSales)
	eachBook(func(_ *series, b book) {
		l, e := taste.Ranks(b.goods, b.sales)
		if _, clash := triedRing(b); clash {
			if len(l) > 0 || e != api.ErrClash {
				t.Fatalf("Ranks(%v) = %v, %d, want ErrClash", b, l, e)
			}
			return
		}
		if want := triedRanks(b); !slices.Equal(l, want) || e != api.OK {
			t.Fatalf("Ranks(%v) = %v, %d, want %v", b, l, e, want)
		}
		for _, rank := range l {
			number[rank]++
		}
	})
	if slices.Min(number) < 20 {
		t.Errorf("sales by rank: %v: too few", number)
	}
}
