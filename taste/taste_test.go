package taste_test

import (
	"math"
	"slices"
	"testing"

	"bellarmine/api"
	"bellarmine/taste"
)

func list(numbers ...int) []int { return numbers }

func lists(all ...[]int) [][]int { return all }

func pairs(all ...[2]int) [][2]int { return all }

// book is sales, and of how many goods they are.
type book struct {
	goods int
	sales []taste.Sale
}

// sold returns sales of so many goods: the prices of each, and behind them what was taken.
func sold(goods int, all ...[]int) book {
	b := book{goods: goods}
	for _, numbers := range all {
		b.sales = append(b.sales, taste.Sale{Prices: numbers[:goods:goods], Taken: numbers[goods:]})
	}
	return b
}

// three and two are S and T of the chapter's examples.
func three() book { return sold(2, list(1, 2, 2, 1), list(2, 1, 1, 2), list(1, 1, 2, 2)) }

func two() book { return sold(2, list(2, 1, 2, 1), list(1, 2, 1, 2)) }

// aroundThree to aroundSix are sales of which each shows its choice to be better than that of the next one, and of nothing else.
func aroundThree() book {
	return sold(3, list(1, 3, 4, 6, 9, 0), list(2, 5, 2, 8, 8, 0), list(3, 1, 6, 1, 8, 3))
}

func aroundFour() book {
	return sold(3, list(6, 9, 7, 9, 2, 3), list(5, 1, 4, 3, 2, 7), list(6, 2, 9, 3, 5, 6), list(1, 3, 6, 7, 6, 3))
}

func aroundFive() book {
	return sold(3, list(1, 8, 6, 9, 2, 8), list(6, 6, 8, 7, 5, 4), list(6, 2, 4, 5, 8, 3), list(8, 6, 4, 3, 8, 5), list(1, 9, 2, 5, 3, 8))
}

func aroundSix() book {
	return sold(3, list(8, 6, 5, 6, 1, 8), list(8, 4, 5, 5, 3, 7), list(8, 3, 7, 4, 6, 6), list(1, 8, 8, 7, 6, 2), list(1, 8, 4, 9, 2, 5),
		list(3, 9, 4, 8, 0, 9))
}

// aroundOnce is a ring of six sales too, of which only the last one shows its choice to be better than that of the next one.
func aroundOnce() book {
	return sold(3, list(1, 2, 3, 4, 5, 0), list(4, 5, 4, 5, 3, 1), list(3, 8, 2, 4, 3, 2), list(7, 5, 1, 4, 2, 6), list(6, 2, 2, 1, 6, 7),
		list(7, 3, 5, 3, 5, 2))
}

// downLate and downEarly are six sales of which each but the last one shows its choice to be as good as that of the next one,
// and nothing else: better only the last one but one, or only the first one.
func downLate() book {
	return sold(3, list(2, 5, 6, 8, 3, 1), list(1, 5, 1, 7, 1, 3), list(2, 9, 1, 9, 0, 6), list(9, 4, 1, 4, 1, 7), list(8, 1, 3, 2, 5, 9),
		list(8, 1, 4, 3, 9, 2))
}

func downEarly() book {
	return sold(3, list(1, 3, 2, 6, 0, 8), list(2, 4, 8, 8, 3, 2), list(2, 1, 7, 8, 7, 0), list(5, 5, 5, 0, 9, 2), list(5, 6, 5, 2, 7, 2),
		list(7, 7, 1, 3, 2, 7))
}

// equal are sales that show nothing to be better.
func equal() book { return sold(2, list(1, 1, 1, 2), list(1, 1, 2, 1)) }

// deep are sales of which each shows its choice to be much better than those behind it.
func deep() book {
	return sold(3, list(9, 9, 9, 9, 9, 9), list(1, 9, 9, 3, 7, 8), list(9, 1, 9, 9, 1, 2), list(9, 9, 1, 1, 9, 0), list(8, 9, 9, 0, 0, 9),
		list(4, 2, 9, 0, 0, 0))
}

// behind are sales of which 0 shows its choice to be as good as that of 2, and better only by way of 1.
func behind() book { return sold(2, list(1, 1, 2, 2), list(3, 1, 1, 3), list(3, 1, 0, 4)) }

// row returns the pairs of neighbours among so many sales, and more pairs.
func row(sales int, more ...[2]int) [][2]int {
	var all [][2]int
	for sale := range sales - 1 {
		all = append(all, [2]int{sale, sale + 1})
	}
	return append(all, more...)
}

func upTo(n int) []int {
	numbers := []int{}
	for number := range n {
		numbers = append(numbers, number)
	}
	return numbers
}

// with returns a book with more sales behind those that it has.
func (b book) with(others ...taste.Sale) book {
	return book{b.goods, slices.Concat(b.sales, others)}
}

// some returns a book of some of its sales.
func (b book) some(kept []int) book {
	other := book{goods: b.goods}
	for _, sale := range kept {
		other.sales = append(other.sales, b.sales[sale])
	}
	return other
}

type badBook struct {
	name string
	book
	want api.Errno
}

func allBadBooks() []badBook {
	seven := slices.Repeat(sold(1, list(1, 1)).sales, 7)
	sale := func(prices, taken []int) taste.Sale { return taste.Sale{Prices: prices, Taken: taken} }
	of := func(goods int, sales ...taste.Sale) book { return book{goods, sales} }
	return []badBook{
		{"no goods", of(0), api.ErrRange},
		{"four goods", of(4), api.ErrRange},
		{"four goods and a right sale of them", sold(4, list(1, 1, 1, 1, 1, 1, 1, 1)), api.ErrRange},
		{"goods below 0", of(-1), api.ErrRange},
		{"very many goods", of(math.MaxInt), api.ErrRange},
		{"the smallest int of goods", of(math.MinInt), api.ErrRange},
		{"no goods before seven sales", of(0, seven...), api.ErrRange},
		{"four goods before a sale without prices", of(4, taste.Sale{}), api.ErrRange},
		{"no goods, and sales without any", of(0, taste.Sale{}), api.ErrRange},
		{"seven sales", of(1, seven...), api.ErrMany},
		{"very many sales", of(2, make([]taste.Sale, 100000)...), api.ErrMany},
		{"seven sales before a price 0", of(1, append(sold(1, list(0, 1)).sales, seven[:6]...)...), api.ErrMany},
		{"seven sales before a sale without prices", of(1, append(seven[:6:6], taste.Sale{})...), api.ErrMany},
		{"neither prices nor taken", of(1, taste.Sale{}), api.ErrShape},
		{"no prices", of(1, sale(nil, list(1))), api.ErrShape},
		{"nothing taken", of(1, sale(list(1), nil)), api.ErrShape},
		{"a price too few", of(2, sale(list(1), list(1, 1))), api.ErrShape},
		{"a price too many", of(2, sale(list(1, 1, 1), list(1, 1))), api.ErrShape},
		{"taken too few", of(2, sale(list(1, 1), list(1))), api.ErrShape},
		{"taken too many", of(2, sale(list(1, 1), list(1, 1, 1))), api.ErrShape},
		{"very many prices", of(3, sale(make([]int, 100000), list(1, 1, 1))), api.ErrShape},
		{"both too few", of(3, sale(list(1, 1), list(1, 1))), api.ErrShape},
		{"taken too few before a price 0", of(2, sale(list(0, 1), list(1))), api.ErrShape},
		{"a price too few before one of 0", of(2, sale(list(0), list(1, 1))), api.ErrShape},
		{"a price too few before taken below 0", of(2, sale(list(1), list(-1, 1))), api.ErrShape},
		{"a second sale of other goods", of(2, sale(list(1, 1), list(1, 1)), sale(list(1), list(1))), api.ErrShape},
		{"a sixth sale without anything", of(1, append(seven[:5:5], taste.Sale{})...), api.ErrShape},
		{"a sale without prices before a price 0", of(1, taste.Sale{}, sale(list(0), list(1))), api.ErrShape},
		{"a price 0", of(2, sale(list(0, 1), list(1, 1))), api.ErrRange},
		{"a second price 0", of(2, sale(list(1, 0), list(1, 1))), api.ErrRange},
		{"a price 10", of(2, sale(list(1, 10), list(1, 1))), api.ErrRange},
		{"a price below 0", of(1, sale(list(-1), list(1))), api.ErrRange},
		{"taken below 0", of(2, sale(list(1, 1), list(-1, 1))), api.ErrRange},
		{"the third taken below 0", of(3, sale(list(1, 1, 1), list(1, 1, -1))), api.ErrRange},
		{"10 taken", of(2, sale(list(1, 1), list(1, 10))), api.ErrRange},
		{"the greatest price", of(1, sale(list(math.MaxInt), list(1))), api.ErrRange},
		{"the smallest number taken", of(1, sale(list(1), list(math.MinInt))), api.ErrRange},
		{"the greatest number taken", of(3, sale(list(9, 9, 9), list(9, 9, math.MaxInt))), api.ErrRange},
		{"a sixth price 0", of(1, append(seven[:5:5], sale(list(0), list(1)))...), api.ErrRange},
		{"a price 0 before a sale without prices", of(1, sale(list(0), list(1)), taste.Sale{}), api.ErrRange},
		{"10 taken before a price too few", of(1, sale(list(1), list(10)), sale(nil, list(1))), api.ErrRange},
	}
}

// P10.1: Check.
func TestCheck(t *testing.T) {
	for _, good := range []book{
		three(), two(), aroundThree(), aroundSix(), equal(), deep(), {goods: 1}, {goods: 2, sales: []taste.Sale{}}, {goods: 3},
		sold(1, list(9, 9)), sold(1, list(1, 0)), sold(3, list(9, 1, 9, 0, 9, 0)), sold(2, list(1, 1, 0, 0), list(9, 9, 9, 9)),
	} {
		if e := taste.Check(good.goods, good.sales); e != api.OK {
			t.Errorf("Check(%v) = %d, want OK", good, e)
		}
	}
	for _, bad := range allBadBooks() {
		if e := taste.Check(bad.goods, bad.sales); e != bad.want {
			t.Errorf("%s: Check = %d, want %d", bad.name, e, bad.want)
		}
	}
}

// question is what functions are asked besides sales.
type question struct {
	a, b                int
	ring, worth, weight []int
}

// call is a call of a function: whether it returned nothing besides its error, and this error.
type call struct {
	name string
	run  func() (bool, api.Errno)
}

// calls are the calls of all functions but Check.
func calls(b book, q question) []call {
	listed := func(l []int, e api.Errno) (bool, api.Errno) { return len(l) == 0, e }
	paired := func(l [][2]int, e api.Errno) (bool, api.Errno) { return len(l) == 0, e }
	return []call{
		{"Cost", func() (bool, api.Errno) { n, e := taste.Cost(b.goods, b.sales, q.a, q.b); return n == 0, e }},
		{"Shows", func() (bool, api.Errno) { return paired(taste.Shows(b.goods, b.sales)) }},
		{"Better", func() (bool, api.Errno) { return paired(taste.Better(b.goods, b.sales)) }},
		{"Least", func() (bool, api.Errno) { return listed(taste.Least(b.goods, b.sales, q.a, q.b)) }},
		{"Taste", func() (bool, api.Errno) { is, e := taste.Taste(b.goods, b.sales); return !is, e }},
		{"Ring", func() (bool, api.Errno) { return listed(taste.Ring(b.goods, b.sales)) }},
		{"Proves", func() (bool, api.Errno) { return true, taste.Proves(b.goods, b.sales, q.ring) }},
		{"Numbers", func() (bool, api.Errno) {
			worth, weight, e := taste.Numbers(b.goods, b.sales)
			return len(worth)+len(weight) == 0, e
		}},
		{"Agrees", func() (bool, api.Errno) { return true, taste.Agrees(b.goods, b.sales, q.worth, q.weight) }},
		{"Wrong", func() (bool, api.Errno) { return listed(taste.Wrong(b.goods, b.sales)) }},
		{"Ranks", func() (bool, api.Errno) { return listed(taste.Ranks(b.goods, b.sales)) }},
	}
}

func someQuestions() []question {
	return []question{
		{},
		{a: 0, b: 1, ring: list(0, 1), worth: list(0), weight: list(1)},
		{a: 6, b: 0, ring: list(6), worth: list(0, 0), weight: list(0, 0)},
		{a: -1, b: 7, ring: list(0, 0), worth: list(-1), weight: nil},
		{a: math.MaxInt, b: math.MinInt, ring: list(math.MinInt, math.MaxInt), worth: list(math.MaxInt, 0, 1), weight: list(math.MinInt, 1, 1)},
		{a: 5, b: 2, ring: upTo(100000), worth: make([]int, 100000), weight: make([]int, 100000)},
		{a: 1, b: 1, ring: list(1, 0), worth: list(0, 0, 2), weight: list(1, 1, 1)},
	}
}

// P10.1: the error of the sales comes before all others; R2: nothing besides it.
func TestBadBooksFirst(t *testing.T) {
	for _, bad := range allBadBooks() {
		for _, q := range someQuestions() {
			for _, c := range calls(bad.book, q) {
				if zero, e := c.run(); !zero || e != bad.want {
					t.Errorf("%s: %s returns error %d, zero value %t, want %d", bad.name, c.name, e, zero, bad.want)
				}
			}
		}
	}
}

// P10.1: Cost; R2: nothing besides an error.
func TestCost(t *testing.T) {
	for _, x := range []struct {
		name string
		book
		costs [][]int
	}{
		{"S", three(), lists(list(4, 5, 6), list(5, 4, 6), list(3, 3, 4))},
		{"T", two(), lists(list(5, 4), list(4, 5))},
		{"no sales", book{goods: 2}, nil},
		{"one sale", sold(3, list(9, 8, 7, 1, 2, 3)), lists(list(46))},
		{"the dearest", sold(3, list(9, 9, 9, 9, 9, 9), list(1, 1, 1, 0, 0, 0)), lists(list(243, 0), list(27, 0))},
		{"more and more of one good", sold(1, list(9, 0), list(2, 4), list(5, 9)), lists(list(0, 36, 81), list(0, 8, 18), list(0, 20, 45))},
		{"a ring of three", aroundThree(), lists(list(33, 32, 37), list(57, 56, 48), list(27, 32, 29))},
	} {
		for a, row := range x.costs {
			for b, want := range row {
				if n, e := taste.Cost(x.goods, x.sales, a, b); n != want || e != api.OK {
					t.Errorf("%s: Cost(%d, %d) = %d, %d, want %d", x.name, a, b, n, e, want)
				}
			}
		}
		for _, outside := range list(-1, len(x.sales), len(x.sales)+1, math.MinInt, math.MaxInt) {
			for _, other := range list(0, -1, len(x.sales)-1, len(x.sales)) {
				for _, both := range pairs([2]int{outside, other}, [2]int{other, outside}) {
					if n, e := taste.Cost(x.goods, x.sales, both[0], both[1]); n != 0 || e != api.ErrNone {
						t.Errorf("%s: Cost(%v) = %d, %d, want ErrNone", x.name, both, n, e)
					}
					if l, e := taste.Least(x.goods, x.sales, both[0], both[1]); len(l) > 0 || e != api.ErrNone {
						t.Errorf("%s: Least(%v) = %v, %d, want ErrNone", x.name, both, l, e)
					}
				}
			}
		}
	}
}

// known is sales, and what is known of them. They have no ranks if they have a ring.
type known struct {
	name string
	book
	shows, better      [][2]int
	ring, wrong, ranks []int
}

func allKnown() []known {
	return []known{
		{"S", three(), pairs([2]int{2, 0}, [2]int{2, 1}), pairs([2]int{2, 0}, [2]int{2, 1}), nil, nil, list(0, 0, 2)},
		{"T", two(), pairs([2]int{0, 1}, [2]int{1, 0}), pairs([2]int{0, 1}, [2]int{1, 0}), list(0, 1), list(0), nil},
		{"no sales", book{goods: 2}, nil, nil, nil, nil, nil},
		{"one sale", sold(3, list(9, 8, 7, 1, 2, 3)), nil, nil, nil, nil, list(0)},
		{"nothing taken", sold(1, list(5, 0), list(1, 0)), pairs([2]int{0, 1}, [2]int{1, 0}), nil, nil, nil, list(0, 0)},
		{"the same taken", sold(2, list(1, 1, 1, 2), list(2, 1, 1, 2)), pairs([2]int{0, 1}, [2]int{1, 0}), nil, nil, nil, list(0, 0)},
		{"nothing is better", equal(), pairs([2]int{0, 1}, [2]int{1, 0}), nil, nil, nil, list(0, 0)},
		{"more and more of one good", sold(1, list(9, 0), list(2, 4), list(5, 9)), pairs([2]int{1, 0}, [2]int{2, 0}, [2]int{2, 1}),
			pairs([2]int{1, 0}, [2]int{2, 0}, [2]int{2, 1}), nil, nil, list(0, 1, 2)},
		{"two of three are the same", sold(1, list(3, 1), list(5, 2), list(1, 2)), pairs([2]int{1, 0}, [2]int{1, 2}, [2]int{2, 0}, [2]int{2, 1}),
			pairs([2]int{1, 0}, [2]int{2, 0}), nil, nil, list(0, 1, 1)},
		{"as good one way, better the other way", sold(2, list(1, 1, 2, 2), list(1, 3, 0, 4)), pairs([2]int{0, 1}, [2]int{1, 0}),
			pairs([2]int{1, 0}), list(0, 1), list(0), nil},
		{"better only by way of another one", behind(), pairs([2]int{0, 1}, [2]int{0, 2}, [2]int{1, 2}), pairs([2]int{1, 2}), nil, nil,
			list(1, 1, 0)},
		{"a ring of three", aroundThree(), row(3, [2]int{2, 0}), row(3, [2]int{2, 0}), list(0, 1, 2), list(0), nil},
		{"a ring of three, told backwards", aroundThree().some(list(2, 1, 0)), pairs([2]int{0, 2}, [2]int{1, 0}, [2]int{2, 1}),
			pairs([2]int{0, 2}, [2]int{1, 0}, [2]int{2, 1}), list(0, 2, 1), list(0), nil},
		{"a ring of three without the last one", aroundThree().some(list(0, 1)), pairs([2]int{0, 1}), pairs([2]int{0, 1}), nil, nil, list(1, 0)},
		{"a ring of four", aroundFour(), row(4, [2]int{3, 0}), row(4, [2]int{3, 0}), list(0, 1, 2, 3), list(0), nil},
		{"a ring of five", aroundFive(), row(5, [2]int{4, 0}), row(5, [2]int{4, 0}), list(0, 1, 2, 3, 4), list(0), nil},
		{"a ring of six", aroundSix(), row(6, [2]int{5, 0}), row(6, [2]int{5, 0}), list(0, 1, 2, 3, 4, 5), list(0), nil},
		{"a ring of six, better only at its end", aroundOnce(), row(6, [2]int{5, 0}), pairs([2]int{5, 0}), list(0, 1, 2, 3, 4, 5), list(0), nil},
		{"better only at the end of a row", downLate(), row(6), pairs([2]int{4, 5}), nil, nil, list(1, 1, 1, 1, 1, 0)},
		{"better only at the beginning of a row", downEarly(), row(6), pairs([2]int{0, 1}), nil, nil, list(5, 0, 0, 0, 0, 0)},
		{"a ring of six, told in another order", aroundSix().some(list(3, 5, 1, 0, 4, 2)),
			pairs([2]int{0, 4}, [2]int{1, 3}, [2]int{2, 5}, [2]int{3, 2}, [2]int{4, 1}, [2]int{5, 0}),
			pairs([2]int{0, 4}, [2]int{1, 3}, [2]int{2, 5}, [2]int{3, 2}, [2]int{4, 1}, [2]int{5, 0}), list(0, 4, 1, 3, 2, 5), list(0), nil},
		{"a ring of six without the third one", aroundSix().some(list(0, 1, 3, 4, 5)), pairs([2]int{0, 1}, [2]int{2, 3}, [2]int{3, 4}, [2]int{4, 0}),
			pairs([2]int{0, 1}, [2]int{2, 3}, [2]int{3, 4}, [2]int{4, 0}), nil, nil, list(1, 0, 4, 3, 2)},
	}
}

// ringsKnown are sales more whose rings are known, told without what they show.
func ringsKnown() []known {
	return []known{
		{name: "S and T", book: three().with(two().sales...), ring: list(3, 4), wrong: list(3)},
		{name: "T and S", book: two().with(three().sales...), ring: list(0, 1), wrong: list(0)},
		{name: "T twice", book: two().with(two().sales...), ring: list(0, 1), wrong: list(0, 2)},
		{name: "T three times", book: two().with(two().sales...).with(two().sales...), ring: list(0, 1), wrong: list(0, 2, 4)},
		{name: "T, its first sale three times", book: two().some(list(0, 0, 1, 0)), ring: list(0, 2), wrong: list(2)},
		{name: "a ring of three, its first sale twice", book: aroundThree().some(list(0, 1, 2, 0)), ring: list(0, 1, 2), wrong: list(1)},
		{name: "a ring of three, its second sale twice", book: aroundThree().some(list(0, 1, 2, 1)), ring: list(0, 1, 2), wrong: list(0)},
		{name: "a ring of three, all sales twice", book: aroundThree().some(list(0, 0, 1, 1, 2, 2)), ring: list(0, 2, 4), wrong: list(0, 1)},
		{name: "a ring of five, its last sale twice", book: aroundFive().some(list(4, 0, 1, 2, 3, 4)), ring: list(0, 1, 2, 3, 4), wrong: list(1)},
		{name: "six sales that are the same", book: equal().some(list(0, 0, 0, 0, 0, 0)), ranks: list(0, 0, 0, 0, 0, 0)},
		{name: "six sales that are as good as one another", book: equal().some(list(0, 1, 1, 0, 1, 0)), ranks: list(0, 0, 0, 0, 0, 0)},
		{name: "S twice", book: three().with(three().sales...), ranks: list(0, 0, 4, 0, 0, 4)},
		{name: "much better by steps", book: deep(), ranks: list(5, 4, 3, 2, 1, 0)},
	}
}

// P10.2: Shows and Better.
func TestPairs(t *testing.T) {
	for _, x := range allKnown() {
		if l, e := taste.Shows(x.goods, x.sales); !slices.Equal(l, x.shows) || e != api.OK {
			t.Errorf("%s: Shows = %v, %d, want %v", x.name, l, e, x.shows)
		}
		if l, e := taste.Better(x.goods, x.sales); !slices.Equal(l, x.better) || e != api.OK {
			t.Errorf("%s: Better = %v, %d, want %v", x.name, l, e, x.better)
		}
	}
}

// P10.3; R2: nothing besides an error.
func TestLeast(t *testing.T) {
	for _, x := range []struct {
		name string
		book
		a, b int
		want []int
		e    api.Errno
	}{
		{"S", three(), 2, 0, list(2, 0), api.OK},
		{"S", three(), 0, 1, nil, api.ErrLost},
		{"S", three(), 0, 2, nil, api.ErrLost},
		{"S", three(), 1, 1, list(1), api.OK},
		{"S", three(), 3, 0, nil, api.ErrNone},
		{"S", three(), 0, 3, nil, api.ErrNone},
		{"S", three(), 0, -1, nil, api.ErrNone},
		{"S", three(), -1, -1, nil, api.ErrNone},
		{"T", two(), 0, 1, list(0, 1), api.OK},
		{"T", two(), 0, 0, list(0), api.OK},
		{"no sales", book{goods: 1}, 0, 0, nil, api.ErrNone},
		{"nothing is better", equal(), 1, 0, list(1, 0), api.OK},
		{"better only by way of another one", behind(), 0, 2, list(0, 2), api.OK},
		{"a ring of three", aroundThree(), 0, 2, list(0, 1, 2), api.OK},
		{"a ring of three", aroundThree(), 2, 1, list(2, 0, 1), api.OK},
		{"a ring of three, its first sale twice", aroundThree().some(list(0, 0, 1, 2)), 0, 3, list(0, 2, 3), api.OK},
		{"a ring of three, its second sale twice", aroundThree().some(list(0, 1, 1, 2)), 0, 3, list(0, 1, 3), api.OK},
		{"a ring of three, its second sale twice, told backwards", aroundThree().some(list(2, 1, 1, 0)), 3, 0, list(3, 1, 0), api.OK},
		{"a ring of six", aroundSix(), 0, 5, list(0, 1, 2, 3, 4, 5), api.OK},
		{"a ring of six", aroundSix(), 4, 3, list(4, 5, 0, 1, 2, 3), api.OK},
		{"a ring of six", aroundSix(), 4, 1, list(4, 5, 0, 1), api.OK},
		{"a ring of six without the third one", aroundSix().some(list(0, 1, 3, 4, 5)), 2, 1, list(2, 3, 4, 0, 1), api.OK},
		{"a ring of six without the third one", aroundSix().some(list(0, 1, 3, 4, 5)), 0, 2, nil, api.ErrLost},
		{"six sales that are the same", equal().some(list(0, 0, 0, 0, 0, 0)), 5, 0, list(5, 0), api.OK},
	} {
		if l, e := taste.Least(x.goods, x.sales, x.a, x.b); !slices.Equal(l, x.want) || e != x.e {
			t.Errorf("%s: Least(%d, %d) = %v, %d, want %v, %d", x.name, x.a, x.b, l, e, x.want, x.e)
		}
	}
}

// P10.4 to P10.7: Taste, Ring, Numbers, Wrong and Ranks; R2: nothing besides an error.
func TestTaste(t *testing.T) {
	for _, x := range append(allKnown(), ringsKnown()...) {
		one := len(x.ring) == 0
		ringError, otherError := api.OK, api.ErrClash
		if one {
			ringError, otherError = api.ErrClash, api.OK
		}
		if is, e := taste.Taste(x.goods, x.sales); is != one || e != api.OK {
			t.Errorf("%s: Taste = %t, %d, want %t", x.name, is, e, one)
		}
		if l, e := taste.Ring(x.goods, x.sales); !slices.Equal(l, x.ring) || e != ringError {
			t.Errorf("%s: Ring = %v, %d, want %v, %d", x.name, l, e, x.ring, ringError)
		}
		if l, e := taste.Wrong(x.goods, x.sales); !slices.Equal(l, x.wrong) || e != api.OK {
			t.Errorf("%s: Wrong = %v, %d, want %v", x.name, l, e, x.wrong)
		}
		if l, e := taste.Ranks(x.goods, x.sales); !slices.Equal(l, x.ranks) || e != otherError {
			t.Errorf("%s: Ranks = %v, %d, want %v, %d", x.name, l, e, x.ranks, otherError)
		}
		worth, weight, e := taste.Numbers(x.goods, x.sales)
		if e != otherError || e != api.OK && len(worth)+len(weight) > 0 {
			t.Errorf("%s: Numbers = %v, %v, %d, want error %d", x.name, worth, weight, e, otherError)
		}
		if agrees := taste.Agrees(x.goods, x.sales, worth, weight); e == api.OK && agrees != api.OK {
			t.Errorf("%s: Numbers = %v, %v, but Agrees says %d", x.name, worth, weight, agrees)
		}
		if proves := taste.Proves(x.goods, x.sales, x.ring); !one && proves != api.OK {
			t.Errorf("%s: Ring = %v, but Proves says %d", x.name, x.ring, proves)
		}
	}
}

// P10.4: Proves.
func TestProves(t *testing.T) {
	for _, x := range []struct {
		name string
		book
		ring []int
		want api.Errno
	}{
		{"T", two(), list(0, 1), api.OK},
		{"T", two(), list(1, 0), api.ErrProof},
		{"T", two(), list(0), api.ErrProof},
		{"T", two(), list(1), api.ErrProof},
		{"T", two(), nil, api.ErrProof},
		{"T", two(), list(0, 2), api.ErrNone},
		{"T", two(), list(2, 0), api.ErrNone},
		{"T", two(), list(0, 1, -1), api.ErrNone},
		{"T", two(), list(0, -1, 0), api.ErrNone},
		{"T", two(), list(math.MaxInt), api.ErrNone},
		{"T", two(), list(0, math.MinInt), api.ErrNone},
		{"T", two(), list(2, 2), api.ErrNone},
		{"T", two(), list(0, 1, 0), api.ErrTwice},
		{"T", two(), list(0, 0), api.ErrTwice},
		{"T", two(), list(0, 0, 2), api.ErrTwice},
		{"T", two(), list(1, 0, 1, -1), api.ErrTwice},
		{"T", two(), make([]int, 100000), api.ErrTwice},
		{"T", two(), upTo(100000), api.ErrNone},
		{"no sales", book{goods: 1}, nil, api.ErrProof},
		{"no sales", book{goods: 1}, list(0), api.ErrNone},
		{"nothing is better", equal(), list(0, 1), api.ErrProof},
		{"S", three(), list(0, 2), api.ErrProof},
		{"S", three(), list(0, 1, 2), api.ErrProof},
		{"as good one way, better the other way", sold(2, list(1, 1, 2, 2), list(1, 3, 0, 4)), list(0, 1), api.OK},
		{"better one way, as good the other way", sold(2, list(1, 3, 0, 4), list(1, 1, 2, 2)), list(0, 1), api.OK},
		{"better only by way of another one", behind(), list(0, 1, 2), api.ErrProof},
		{"a ring of three", aroundThree(), list(0, 1, 2), api.OK},
		{"a ring of three", aroundThree(), list(0, 2, 1), api.ErrProof},
		{"a ring of three", aroundThree(), list(1, 2, 0), api.ErrProof},
		{"a ring of three", aroundThree(), list(0, 1), api.ErrProof},
		{"a ring of six", aroundSix(), list(0, 1, 2, 3, 4, 5), api.OK},
		{"a ring of six", aroundSix(), list(0, 1, 2, 3, 4), api.ErrProof},
		{"T twice", two().with(two().sales...), list(0, 3), api.OK},
		{"T twice", two().with(two().sales...), list(1, 2), api.OK},
		{"T twice, a ring of all", two().with(two().sales...), list(0, 1, 2, 3), api.OK},
		{"T twice, a ring of all, as good two times", two().with(two().sales...), list(0, 2, 1, 3), api.OK},
		{"T twice, the same sale only", two().with(two().sales...), list(0, 2), api.ErrProof},
	} {
		if e := taste.Proves(x.goods, x.sales, x.ring); e != x.want {
			t.Errorf("%s: Proves(%v) = %d, want %d", x.name, x.ring, e, x.want)
		}
	}
}

// P10.5: Agrees.
func TestAgrees(t *testing.T) {
	const most = taste.MaxWorth
	for _, x := range []struct {
		name string
		book
		worth, weight []int
		want          api.Errno
	}{
		{"S", three(), list(0, 0, 2), list(1, 1, 1), api.OK},
		{"S", three(), list(0, 0, 0), list(1, 1, 1), api.ErrProof},
		{"S", three(), list(0, 0, 1), list(1, 1, 1), api.OK},
		{"S", three(), list(0, 0, 1), list(1, 1, 2), api.ErrProof},
		{"S", three(), list(0, 0, 3), list(1, 1, 1), api.ErrProof},
		{"S", three(), list(0, 0, 3), list(2, 2, 3), api.OK},
		{"S", three(), list(0, 0, 3), list(1, 2, 3), api.ErrProof},
		{"S", three(), list(0, 0, 3), list(2, 1, 3), api.ErrProof},
		{"S", three(), list(0, 1, 2), list(1, 1, 1), api.OK},
		{"S", three(), list(0, 1, 3), list(2, 1, 2), api.OK},
		{"S", three(), list(0, 2, 3), list(1, 1, 1), api.ErrProof},
		{"S", three(), list(most-2, most-2, most), list(1, 1, 1), api.OK},
		{"S", three(), list(0, 0, most), list(most/2, most/2, most), api.OK},
		{"S", three(), list(0, 0, most), list(most/2, most/2-1, most), api.ErrProof},
		{"S", three(), list(0, 0, most), list(most, most, most), api.OK},
		{"S", three(), list(0, 0, most-1), list(most, most, most), api.ErrProof},
		{"S", three(), list(most, most, 0), list(1, 1, 1), api.ErrProof},
		{"S", three(), list(0), list(1), api.ErrShape},
		{"S", three(), nil, nil, api.ErrShape},
		{"S", three(), list(0, 0, 2), list(1, 1), api.ErrShape},
		{"S", three(), list(0, 0), list(1, 1, 1), api.ErrShape},
		{"S", three(), list(0, 0, 2, 0), list(1, 1, 1), api.ErrShape},
		{"S", three(), list(0, 0, 2), list(1, 1, 1, 1), api.ErrShape},
		{"S", three(), list(0, 0, 2, 0), list(1, 1, 1, 1), api.ErrShape},
		{"S", three(), list(-1, 0, 2), list(1, 1), api.ErrShape},
		{"S", three(), list(0, 0), list(0, 1, 1), api.ErrShape},
		{"S", three(), list(0, -1, 2), list(1, 1, 1), api.ErrRange},
		{"S", three(), list(0, 0, 2), list(1, 0, 1), api.ErrRange},
		{"S", three(), list(0, 0, 2), list(1, 1, -1), api.ErrRange},
		{"S", three(), list(0, 0, most+1), list(1, 1, 1), api.ErrRange},
		{"S", three(), list(0, 0, 2), list(most+1, 1, 1), api.ErrRange},
		{"S", three(), list(0, 0, math.MaxInt), list(1, 1, 1), api.ErrRange},
		{"S", three(), list(0, 0, 2), list(math.MaxInt, math.MaxInt, 1), api.ErrRange},
		{"S", three(), list(math.MinInt, 0, 0), list(1, 1, 1), api.ErrRange},
		{"S", three(), list(0, 0, 0), list(math.MinInt, 1, 1), api.ErrRange},
		{"no sales", book{goods: 3}, nil, list(), api.OK},
		{"no sales", book{goods: 3}, list(0), nil, api.ErrShape},
		{"one sale", sold(1, list(1, 0)), list(most), list(most), api.OK},
		{"one sale", sold(1, list(1, 0)), list(0), list(1), api.OK},
		{"one sale", sold(1, list(1, 0)), list(0), list(0), api.ErrRange},
		{"nothing is better", equal(), list(4, 4), list(1, 9), api.OK},
		{"nothing is better", equal(), list(4, 5), list(9, 9), api.ErrProof},
		{"nothing is better", equal(), list(5, 4), list(9, 9), api.ErrProof},
		{"T", two(), list(0, 0), list(1, 1), api.ErrProof},
		{"T", two(), list(1, 0), list(1, 1), api.ErrProof},
		{"T", two(), list(0, 1), list(1, 1), api.ErrProof},
		{"the dearest", sold(3, list(9, 9, 9, 9, 9, 9), list(9, 9, 9, 0, 0, 0)), list(most, 0), list(most/243, most), api.OK},
		{"the dearest", sold(3, list(9, 9, 9, 9, 9, 9), list(9, 9, 9, 0, 0, 0)), list(most, 0), list(most/243+1, most), api.ErrProof},
		{"the dearest", sold(3, list(9, 9, 9, 9, 9, 9), list(9, 9, 9, 0, 0, 0)), list(most, 0), list(most, most), api.ErrProof},
	} {
		if e := taste.Agrees(x.goods, x.sales, x.worth, x.weight); e != x.want {
			t.Errorf("%s: Agrees(%v, %v) = %d, want %d", x.name, x.worth, x.weight, e, x.want)
		}
	}
}

// withSpare returns a copy of a list with an element behind its end, which must not be written to either.
func withSpare(numbers []int) []int { return append(slices.Clone(numbers), -7)[:len(numbers)] }

// withSpare returns a copy of a book with elements behind the ends of all its lists.
func (b book) withSpare() book {
	spare := book{goods: b.goods}
	for _, sale := range b.sales {
		spare.sales = append(spare.sales, taste.Sale{Prices: withSpare(sale.Prices), Taken: withSpare(sale.Taken)})
	}
	spare.sales = append(spare.sales, taste.Sale{Prices: list(-7)})[:len(b.sales)]
	return spare
}

// memory returns a copy of all memory of a book and of a question, also behind the ends of lists.
func memory(b book, q question) [][]int {
	all := lists(q.ring, q.worth, q.weight)
	for _, sale := range b.sales[:cap(b.sales)] {
		all = append(all, sale.Prices, sale.Taken)
	}
	for i, l := range all {
		all[i] = slices.Clone(l[:cap(l)])
	}
	return all
}

func sameLists(a, b [][]int) bool { return slices.EqualFunc(a, b, slices.Equal[[]int]) }

// overwrite writes to all memory of a list, also behind its end.
func overwrite[T any](l []T, other T) {
	l = l[:cap(l)]
	for i := range l {
		l[i] = other
	}
}

// overwriteAll does so with each list, after which those behind it still have to be what they were.
func overwriteAll(t *testing.T, all, want [][]int) {
	t.Helper()
	for i := range all {
		if !sameLists(all[i:], want[i:]) {
			t.Fatalf("%v after other results were overwritten, want %v", all[i:], want[i:])
		}
		overwrite(all[i], -99)
	}
}

// pairsTold returns what Shows and Better return.
func pairsTold(b book) [][][2]int {
	shows, _ := taste.Shows(b.goods, b.sales)
	better, _ := taste.Better(b.goods, b.sales)
	return [][][2]int{shows, better}
}

// listsTold returns what the functions return that return lists.
func listsTold(b book) [][]int {
	least, _ := taste.Least(b.goods, b.sales, 2, 0)
	ring, _ := taste.Ring(b.goods, b.sales)
	worth, weight, _ := taste.Numbers(b.goods, b.sales)
	wrong, _ := taste.Wrong(b.goods, b.sales)
	ranks, _ := taste.Ranks(b.goods, b.sales)
	return lists(least, ring, worth, weight, wrong, ranks)
}

// R4: arguments stay as they were, and results share no memory with them or with one another.
func TestOwnMemory(t *testing.T) {
	for _, b := range []book{three(), two().with(two().sales...)} {
		n := len(b.sales)
		spare := b.withSpare()
		q := question{2, 0, withSpare(list(0, 1)), withSpare(make([]int, n)), withSpare(slices.Repeat(list(1), n))}
		before := memory(spare, q)
		wantPairs, wantLists := pairsTold(b), listsTold(b)
		for range 2 {
			allPairs, allLists := pairsTold(spare), listsTold(spare)
			for i, told := range allPairs {
				if !slices.Equal(told, wantPairs[i]) {
					t.Fatalf("%v after other results were overwritten, want %v", told, wantPairs[i])
				}
				overwrite(told, [2]int{-99, -99})
			}
			overwriteAll(t, allLists, wantLists)
			for _, c := range calls(spare, q) {
				c.run()
			}
			taste.Check(spare.goods, spare.sales)
		}
		if after := memory(spare, q); !sameLists(after, before) {
			t.Errorf("the arguments were changed: %v, want %v", after, before)
		}
	}
}

// answers calls all functions and returns all numbers that they return.
func answers(b book, q question) []int {
	all := list(int(taste.Check(b.goods, b.sales)))
	for _, told := range pairsTold(b) {
		all = append(all, len(told))
		for _, both := range told {
			all = append(all, both[0], both[1])
		}
	}
	least, _ := taste.Least(b.goods, b.sales, q.a, q.b)
	for _, told := range append(listsTold(b), least) {
		all = append(append(all, len(told)), told...)
	}
	cost, _ := taste.Cost(b.goods, b.sales, q.a, q.b)
	all = append(all, cost)
	for _, c := range calls(b, q) {
		zero, e := c.run()
		all = append(all, int(e))
		if zero {
			all = append(all, -1)
		}
	}
	return all
}

func copyOf(b book) book {
	copied := book{goods: b.goods}
	for _, sale := range b.sales {
		copied.sales = append(copied.sales, taste.Sale{Prices: slices.Clone(sale.Prices), Taken: slices.Clone(sale.Taken)})
	}
	return copied
}

// P1: every function returns for all arguments, and the same for equal ones; R3: nil is a list without elements.
func TestAllArguments(t *testing.T) {
	some := []book{}
	for _, bad := range allBadBooks() {
		some = append(some, bad.book)
	}
	for _, x := range append(allKnown(), ringsKnown()...) {
		some = append(some, x.book)
	}
	for _, b := range some {
		for _, q := range someQuestions() {
			again := question{q.a, q.b, slices.Clone(q.ring), slices.Clone(q.worth), slices.Clone(q.weight)}
			if got, want := answers(b, q), answers(copyOf(b), again); !slices.Equal(got, want) {
				t.Fatalf("%v, %v: %v, then %v", b, q, want, got)
			}
		}
		if got, want := answers(b, question{}), answers(b, question{ring: list(), worth: list(), weight: list()}); !slices.Equal(got, want) {
			t.Errorf("%v: %v with nil, %v with lists without elements", b, got, want)
		}
	}
	for _, x := range []struct{ a, b book }{
		{book{goods: 1}, book{1, []taste.Sale{}}}, {book{goods: 0}, book{0, []taste.Sale{}}},
		{book{1, []taste.Sale{{}}}, book{1, []taste.Sale{{Prices: list(), Taken: list()}}}},
		{book{1, []taste.Sale{{Taken: list(1)}}}, book{1, []taste.Sale{{Prices: list(), Taken: list(1)}}}},
	} {
		if got, want := answers(x.a, question{}), answers(x.b, question{}); !slices.Equal(got, want) {
			t.Errorf("%v: %v with nil, %v with lists without elements", x.a, got, want)
		}
	}
}
