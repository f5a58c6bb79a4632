package taste_test

import (
	"slices"
	"testing"

	"bellarmine/api"
	"bellarmine/taste"
)

func showsOf(t *testing.T, b book) [][2]int {
	t.Helper()
	shows, e := taste.Shows(b.goods, b.sales)
	if e != api.OK {
		t.Fatalf("Shows(%v): error %d", b, e)
	}
	return shows
}

func betterOf(t *testing.T, b book) [][2]int {
	t.Helper()
	better, e := taste.Better(b.goods, b.sales)
	if e != api.OK {
		t.Fatalf("Better(%v): error %d", b, e)
	}
	return better
}

// leastOf returns the shortest list, and whether there is one.
func leastOf(t *testing.T, b book, from, to int) ([]int, bool) {
	t.Helper()
	least, e := taste.Least(b.goods, b.sales, from, to)
	if e != api.OK && e != api.ErrLost {
		t.Fatalf("%v: Least(%d, %d): error %d", b, from, to, e)
	}
	return least, e == api.OK
}

func tasteOf(t *testing.T, b book) bool {
	t.Helper()
	is, e := taste.Taste(b.goods, b.sales)
	if e != api.OK {
		t.Fatalf("Taste(%v): error %d", b, e)
	}
	return is
}

// ringOf returns the first of the shortest rings, and whether there is one.
func ringOf(t *testing.T, b book) ([]int, bool) {
	t.Helper()
	ring, e := taste.Ring(b.goods, b.sales)
	if e != api.OK && e != api.ErrClash {
		t.Fatalf("Ring(%v): error %d", b, e)
	}
	return ring, e == api.OK
}

func provesOf(b book, ring []int) bool {
	return taste.Proves(b.goods, b.sales, ring) == api.OK
}

// numbersOf returns numbers, and whether there are any.
func numbersOf(t *testing.T, b book) (worth, weight []int, is bool) {
	t.Helper()
	worth, weight, e := taste.Numbers(b.goods, b.sales)
	if e != api.OK && e != api.ErrClash {
		t.Fatalf("Numbers(%v): error %d", b, e)
	}
	return worth, weight, e == api.OK
}

func agreesOf(b book, worth, weight []int) bool {
	return taste.Agrees(b.goods, b.sales, worth, weight) == api.OK
}

func wrongOf(t *testing.T, b book) []int {
	t.Helper()
	wrong, e := taste.Wrong(b.goods, b.sales)
	if e != api.OK {
		t.Fatalf("Wrong(%v): error %d", b, e)
	}
	return wrong
}

// ranksOf returns the ranks of sales of one taste.
func ranksOf(t *testing.T, b book) []int {
	t.Helper()
	ranks, e := taste.Ranks(b.goods, b.sales)
	if e != api.OK {
		t.Fatalf("Ranks(%v): error %d", b, e)
	}
	return ranks
}

// P10.8, M4: there are numbers just if there is no ring: numbers are accepted as such, and if a ring is, no numbers are.
func TestRingOrNumbers(t *testing.T) {
	rings, small := 0, 0
	eachBook(func(s *series, b book) {
		ring, clash := ringOf(t, b)
		worth, weight, is := numbersOf(t, b)
		if is == clash || is != tasteOf(t, b) {
			t.Fatalf("%v: ring %v, %t, numbers %v, %v, %t, one taste %t", b, ring, clash, worth, weight, is, tasteOf(t, b))
		}
		if clash && !provesOf(b, ring) || is && !agreesOf(b, worth, weight) {
			t.Fatalf("%v: ring %v, or numbers %v, %v, are not accepted", b, ring, worth, weight)
		}
		if !clash {
			for list := range eachOrder(b) {
				if provesOf(b, list) {
					t.Fatalf("%v: numbers %v, %v, but the ring %v is accepted, too", b, worth, weight, list)
				}
			}
			return
		}
		rings++
		if len(b.sales) == 2 {
			small++
			noSmallNumbers(t, b)
		}
		for range 20 {
			worth, weight := s.list(len(b.sales), 0, 9), s.list(len(b.sales), 1, 9)
			if agreesOf(b, worth, weight) {
				t.Fatalf("%v: ring %v, but the numbers %v, %v are accepted, too", b, ring, worth, weight)
			}
		}
	})
	if rings < 1000 || small < 50 {
		t.Errorf("only %d rings, %d of them of two sales", rings, small)
	}
}

// noSmallNumbers checks that no small numbers of two sales are accepted.
func noSmallNumbers(t *testing.T, b book) {
	t.Helper()
	for worth := range eachList(2, 10) {
		for weight := range eachList(2, 4) {
			for i := range weight {
				weight[i]++
			}
			if agreesOf(b, worth, weight) {
				t.Fatalf("%v have a ring, but the numbers %v, %v are accepted", b, worth, weight)
			}
			for i := range weight {
				weight[i]--
			}
		}
	}
}

// M4: along a ring, all that numbers ask for cannot hold: what the choices cost more, weighed, comes to less than nothing.
func TestRingRefusesNumbers(t *testing.T) {
	eachBook(func(s *series, b book) {
		ring, clash := ringOf(t, b)
		if !clash {
			return
		}
		for range 5 {
			weight, sum := s.list(len(b.sales), 1, 1000), 0
			for i, one := range ring {
				sum += weight[one] * (triedCost(b, one, ring[(i+1)%len(ring)]) - triedCost(b, one, one))
			}
			if sum >= 0 {
				t.Fatalf("%v: along the ring %v the weights %v allow for %d", b, ring, weight, sum)
			}
		}
	})
}

// otherNumbers returns numbers that agree, made from others: greater ones, and those that are changed a little.
func (s *series) otherNumbers(b book, worth, weight []int) [][2][]int {
	all := [][2][]int{{worth, weight}}
	more, times := s.below(5), 1+s.below(4)
	var otherWorth, otherWeight []int
	for i := range worth {
		otherWorth = append(otherWorth, worth[i]*times+more)
		otherWeight = append(otherWeight, weight[i]*times)
	}
	all = append(all, [2][]int{otherWorth, otherWeight})
	for range 6 {
		otherWorth, otherWeight = slices.Clone(otherWorth), slices.Clone(otherWeight)
		i, j := s.below(len(worth)), s.below(len(worth))
		otherWorth[i] = max(0, otherWorth[i]+s.below(7)-3)
		otherWeight[j] = max(1, otherWeight[j]+s.below(7)-3)
		if areNumbers(b, otherWorth, otherWeight) {
			all = append(all, [2][]int{otherWorth, otherWeight})
		}
	}
	return all
}

// P10.9, M1: what is shown, also by way of others, holds for all numbers.
func TestNumbersKeepWhatIsShown(t *testing.T) {
	alike, asGood, above := 0, 0, 0
	eachBook(func(s *series, b book) {
		worth, weight, is := numbersOf(t, b)
		if !is || len(worth) == 0 {
			return
		}
		shows := showsOf(t, b)
		for _, numbers := range s.otherNumbers(b, worth, weight) {
			if !agreesOf(b, numbers[0], numbers[1]) {
				t.Fatalf("%v: %v are numbers, and not accepted", b, numbers)
			}
			for _, both := range shows {
				one, other := numbers[0][both[0]], numbers[0][both[1]]
				if slices.Contains(shows, [2]int{both[1], both[0]}) {
					alike++
					if one != other {
						t.Fatalf("%v: %v are as good as one another, but not by %v", b, both, numbers)
					}
				}
			}
			for chain := range eachOrder(b) {
				if len(chain) == 0 || !leads(b, chain) {
					continue
				}
				first, last := numbers[0][chain[0]], numbers[0][chain[len(chain)-1]]
				asGood++
				if rises(b, chain) {
					above++
				}
				if last > first || rises(b, chain) && last == first {
					t.Fatalf("%v: %v lead from worth %d to worth %d by %v", b, chain, first, last, numbers)
				}
			}
		}
	})
	if min(alike, asGood, above) < 5000 {
		t.Errorf("%d pairs as good as one another, %d lists, %d of them to a worse one: too few", alike, asGood, above)
	}
}

// P10.9, M2: a rank counts each of the others once, and follows worth: by all numbers a sale is worth more than all that
// its rank counts.
func TestRanksAndWorth(t *testing.T) {
	eachBook(func(s *series, b book) {
		worth, _, is := numbersOf(t, b)
		if !is {
			return
		}
		ranks, better := ranksOf(t, b), betterOf(t, b)
		for one, rank := range ranks {
			less, shown := 0, 0
			for other := range ranks {
				if worth[other] < worth[one] {
					less++
				}
				if slices.Contains(better, [2]int{one, other}) {
					shown++
				}
			}
			if rank < shown || rank > less {
				t.Fatalf("%v: Ranks %v, but %d is shown to be better than %d, and worth more than %d", b, ranks, one, shown, less)
			}
		}
		for _, both := range showsOf(t, b) {
			if ranks[both[0]] < ranks[both[1]] {
				t.Fatalf("%v: Ranks %v, but %v", b, ranks, both)
			}
		}
	})
}

// P10.10, M3: each ring has a sale of Wrong, which is empty just if the sales are of one taste, and nothing less will do.
func TestWrongHitsEachRing(t *testing.T) {
	hit := 0
	eachBook(func(_ *series, b book) {
		wrong := wrongOf(t, b)
		if tasteOf(t, b) != (len(wrong) == 0) {
			t.Fatalf("%v: one taste %t, but %v are wrong", b, tasteOf(t, b), wrong)
		}
		if !tasteOf(t, b.some(b.others(wrong))) {
			t.Fatalf("%v without %v are not of one taste", b, wrong)
		}
		if len(wrong) == 0 {
			return
		}
		for ring := range eachOrder(b) {
			if !provesOf(b, ring) {
				continue
			}
			hit++
			if !slices.ContainsFunc(ring, func(sale int) bool { return slices.Contains(wrong, sale) }) {
				t.Fatalf("%v: the ring %v has none of %v", b, ring, wrong)
			}
		}
		for out := range eachOrder(b) {
			if len(out) >= len(wrong) {
				break
			}
			if tasteOf(t, b.some(b.others(out))) {
				t.Fatalf("%v without %v are of one taste, so that %v are too many", b, out, wrong)
			}
		}
	})
	if hit < 5000 {
		t.Errorf("only %d rings", hit)
	}
}

// M3: no list is shorter than that of Least, and no ring shorter than that of Ring.
func TestShortest(t *testing.T) {
	eachMixed(300, func(_ *series, b book) {
		ring, clash := ringOf(t, b)
		for list := range eachOrder(b) {
			if clash && len(list) < len(ring) && provesOf(b, list) {
				t.Fatalf("%v: the ring %v is shorter than %v", b, list, ring)
			}
			if len(list) == 0 || !leads(b, list) {
				continue
			}
			least, is := leastOf(t, b, list[0], list[len(list)-1])
			if !is || len(least) > len(list) || !leads(b, least) {
				t.Fatalf("%v: Least = %v, %t, but %v lead there, too", b, least, is, list)
			}
		}
	})
}

// otherGoods returns sales whose goods have other numbers.
func (b book) otherGoods(numbers []int) book {
	other := copyOf(b)
	for i, sale := range b.sales {
		for good, number := range numbers {
			other.sales[i].Prices[number], other.sales[i].Taken[number] = sale.Prices[good], sale.Taken[good]
		}
	}
	return other
}

// P10.11, M5: if goods get other numbers, all that is told of sales stays.
func TestGoodsRenumbered(t *testing.T) {
	changed := 0
	eachBook(func(s *series, b book) {
		numbers := s.order(b.goods)
		other := b.otherGoods(numbers)
		if !slices.IsSorted(numbers) {
			changed++
		}
		if !slices.Equal(showsOf(t, b), showsOf(t, other)) || !slices.Equal(betterOf(t, b), betterOf(t, other)) {
			t.Fatalf("%v and %v show %v and %v, better %v and %v", b, other, showsOf(t, b), showsOf(t, other), betterOf(t, b), betterOf(t, other))
		}
		if !sameLists(listsButNumbers(b), listsButNumbers(other)) {
			t.Fatalf("%v: %v; %v: %v", b, listsButNumbers(b), other, listsButNumbers(other))
		}
		if worth, weight, is := numbersOf(t, b); is && !agreesOf(other, worth, weight) {
			t.Fatalf("the numbers %v, %v of %v are none of %v", worth, weight, b, other)
		}
	})
	if changed < 1000 {
		t.Errorf("only %d times other goods", changed)
	}
}

// listsButNumbers returns what functions return besides numbers, which are free.
func listsButNumbers(b book) [][]int {
	all := listsTold(b)
	return lists(all[0], all[1], all[4], all[5])
}

// renumbered returns pairs of sales by other numbers, in ascending order.
func renumbered(all [][2]int, numbers []int) [][2]int {
	var others [][2]int
	for _, both := range all {
		others = append(others, [2]int{numbers[both[0]], numbers[both[1]]})
	}
	slices.SortFunc(others, func(a, b [2]int) int { return slices.Compare(a[:], b[:]) })
	return others
}

// P10.11, M5: if sales come in another order, all stays but what comes first.
func TestSalesInAnotherOrder(t *testing.T) {
	eachBook(func(s *series, b book) {
		order := s.order(len(b.sales))
		other := b.some(order)
		numbers := make([]int, len(order))
		for place, sale := range order {
			numbers[sale] = place
		}
		if tasteOf(t, b) != tasteOf(t, other) || len(wrongOf(t, b)) != len(wrongOf(t, other)) {
			t.Fatalf("%v: one taste %t, wrong %v; %v: %t, %v", b, tasteOf(t, b), wrongOf(t, b), other, tasteOf(t, other), wrongOf(t, other))
		}
		if got, want := showsOf(t, other), renumbered(showsOf(t, b), numbers); !slices.Equal(got, want) {
			t.Fatalf("Shows(%v) = %v, want %v", other, got, want)
		}
		if got, want := betterOf(t, other), renumbered(betterOf(t, b), numbers); !slices.Equal(got, want) {
			t.Fatalf("Better(%v) = %v, want %v", other, got, want)
		}
		ring, clash := ringOf(t, b)
		otherRing, also := ringOf(t, other)
		if clash != also || len(ring) != len(otherRing) {
			t.Fatalf("%v: ring %v; %v: ring %v", b, ring, other, otherRing)
		}
		for sale, place := range numbers {
			least, _ := leastOf(t, b, sale, order[0])
			otherLeast, _ := leastOf(t, other, place, 0)
			if len(least) != len(otherLeast) {
				t.Fatalf("%v: list %v; %v: list %v", b, least, other, otherLeast)
			}
			if !clash && ranksOf(t, b)[sale] != ranksOf(t, other)[place] {
				t.Fatalf("%v: ranks %v; %v: ranks %v", b, ranksOf(t, b), other, ranksOf(t, other))
			}
		}
	})
}

// P10.12, M7: some of the sales are of one taste if all are, no more of them are wrong, and no ring of them is new.
func TestSomeSales(t *testing.T) {
	fewer := 0
	eachBook(func(s *series, b book) {
		if len(b.sales) == 0 {
			return
		}
		kept := s.order(len(b.sales))[:s.below(len(b.sales))]
		slices.Sort(kept)
		some := b.some(kept)
		if tasteOf(t, b) && !tasteOf(t, some) {
			t.Fatalf("%v are of one taste, but %v are not", b, some)
		}
		if a, b := len(wrongOf(t, b)), len(wrongOf(t, some)); b > a {
			t.Fatalf("%v: %d wrong sales of some, and %d of all", b, b, a)
		}
		if ring, clash := ringOf(t, some); clash {
			var same []int
			for _, sale := range ring {
				same = append(same, kept[sale])
			}
			if !provesOf(b, same) {
				t.Fatalf("%v: the ring %v of some sales is none of all", b, same)
			}
		} else if !tasteOf(t, b) {
			fewer++
		}
		if worth, weight, is := numbersOf(t, b); is {
			var someWorth, someWeight []int
			for _, sale := range kept {
				someWorth, someWeight = append(someWorth, worth[sale]), append(someWeight, weight[sale])
			}
			if !agreesOf(some, someWorth, someWeight) {
				t.Fatalf("%v: the numbers %v, %v do not agree for the sales %v alone", b, worth, weight, kept)
			}
		}
	})
	if fewer < 100 {
		t.Errorf("only %d times some sales are of one taste, and all are not", fewer)
	}
}

// P10.12, M7: a sale once more changes nothing in Taste, nor in the length of the shortest ring.
func TestSaleOnceMore(t *testing.T) {
	number := map[bool]int{}
	eachBook(func(s *series, b book) {
		if len(b.sales) == 0 || len(b.sales) == taste.MaxSales {
			return
		}
		more := b.with(b.sales[s.below(len(b.sales))])
		if tasteOf(t, b) != tasteOf(t, more) {
			t.Fatalf("%v: one taste %t, but %v: %t", b, tasteOf(t, b), more, tasteOf(t, more))
		}
		number[tasteOf(t, b)]++
		ring, _ := ringOf(t, b)
		if moreRing, _ := ringOf(t, more); !slices.Equal(ring, moreRing) {
			t.Fatalf("%v: ring %v, but %v: %v", b, ring, more, moreRing)
		}
	})
	if min(number[true], number[false]) < 500 {
		t.Errorf("sales by whether they are of one taste: %v: too few", number)
	}
}

// P10.12, M7: if all prices of a sale are multiplied by one number, what is shown stays.
func TestPricesMultiplied(t *testing.T) {
	changed := 0
	eachBook(func(s *series, b book) {
		other := copyOf(b)
		for i, sale := range other.sales {
			times := 1 + s.below(taste.MaxPrice/slices.Max(sale.Prices))
			for good := range sale.Prices {
				other.sales[i].Prices[good] *= times
			}
			if times > 1 {
				changed++
			}
		}
		if !slices.Equal(showsOf(t, b), showsOf(t, other)) || !slices.Equal(betterOf(t, b), betterOf(t, other)) {
			t.Fatalf("%v and %v show %v and %v, better %v and %v", b, other, showsOf(t, b), showsOf(t, other), betterOf(t, b), betterOf(t, other))
		}
		if !sameLists(listsButNumbers(b), listsButNumbers(other)) {
			t.Fatalf("%v: %v; %v: %v", b, listsButNumbers(b), other, listsButNumbers(other))
		}
	})
	if changed < 1000 {
		t.Errorf("only %d sales with other prices", changed)
	}
}

// P10.13, M2: a sale at which more was taken of some good, and less of none, shows its choice to be better.
func TestMoreTaken(t *testing.T) {
	number := 0
	eachBook(func(_ *series, b book) {
		better := betterOf(t, b)
		for both := range eachChoice(2, len(b.sales)) {
			one, other := b.sales[both[0]].Taken, b.sales[both[1]].Taken
			more, less := false, false
			for good := range one {
				more = more || one[good] > other[good]
				less = less || one[good] < other[good]
			}
			if more && !less {
				number++
				if !slices.Contains(better, [2]int{both[0], both[1]}) {
					t.Fatalf("Better(%v) = %v, but at %d more was taken than at %d", b, better, both[0], both[1])
				}
			}
		}
	})
	if number < 5000 {
		t.Errorf("only %d pairs of which more was taken once", number)
	}
}

// M2: each pair is told once, of different sales, and what is better is as good.
func TestPairsToldOnce(t *testing.T) {
	eachBook(func(_ *series, b book) {
		shows, better := showsOf(t, b), betterOf(t, b)
		for _, all := range [][][2]int{shows, better} {
			for i, both := range all {
				if both[0] == both[1] || i > 0 && slices.Compare(all[i-1][:], both[:]) >= 0 {
					t.Fatalf("%v: %v", b, all)
				}
			}
		}
		for _, both := range better {
			if !slices.Contains(shows, both) {
				t.Fatalf("%v: %v is better, but not as good", b, both)
			}
		}
	})
}

// M7: who takes each time what is liked best of all that is not too dear has one taste.
func TestChosenByOneTaste(t *testing.T) {
	s := series(11)
	above := 0
	for range 400 {
		b := s.chosen(1+s.below(taste.MaxGoods), taste.MaxSales)
		if !tasteOf(t, b) || len(wrongOf(t, b)) > 0 {
			t.Fatalf("%v were chosen by one taste, but %v are wrong", b, wrongOf(t, b))
		}
		above += len(betterOf(t, b))
	}
	if above < 1000 {
		t.Errorf("only %d choices are better than others", above)
	}
}
