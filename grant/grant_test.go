package grant_test

import (
	"math"
	"slices"
	"testing"

	"bellarmine/api"
	"bellarmine/grant"
)

func list(numbers ...int) []int { return numbers }

// wishesW and own are W and H of the chapter's examples.
func wishesW() [][]int { return [][]int{{1, 0, 2, 3}, {2, 0, 1, 3}, {0, 1, 2, 3}, {0, 2, 1, 3}} }

func own() []int { return list(0, 1, 2, 3) }

func upTo(n int) []int {
	var numbers []int
	for number := range n {
		numbers = append(numbers, number)
	}
	return numbers
}

// alike returns the wishes of n holders who all like 0 best, then 1, and so on.
func alike(n int) [][]int {
	var wishes [][]int
	for range n {
		wishes = append(wishes, upTo(n))
	}
	return wishes
}

// content returns the wishes of n holders each of whom likes the stretch with the own number best.
func content(n int) [][]int {
	wishes := alike(n)
	for h := range wishes {
		wishes[h] = slices.Insert(slices.Delete(wishes[h], h, h+1), 0, h)
	}
	return wishes
}

func sameLists(a, b [][]int) bool { return slices.EqualFunc(a, b, slices.Equal[[]int]) }

type badWishes struct {
	name   string
	wishes [][]int
	want   api.Errno
}

func allBadWishes() []badWishes {
	return []badWishes{
		{"no holders, nil", nil, api.ErrEmpty},
		{"no holders", [][]int{}, api.ErrEmpty},
		{"7 holders", alike(7), api.ErrMany},
		{"7 holders before their empty lists", make([][]int, 7), api.ErrMany},
		{"one holder without wishes", [][]int{nil}, api.ErrShape},
		{"a list that is too short", [][]int{{0, 1}, {0}}, api.ErrShape},
		{"a list that is too long", [][]int{{0, 1}, {0, 1, 1}}, api.ErrShape},
		{"a list that is not there", [][]int{{0, 1}, nil}, api.ErrShape},
		{"a wrong length before a wrong number", [][]int{{9}, {0, 1}}, api.ErrShape},
		{"a wrong length before a number that occurs twice", [][]int{{0, 0, 0}, {0, 1}}, api.ErrShape},
		{"a wrong number of the first before a wrong length of the second", [][]int{{0, 2}, {0}}, api.ErrNone},
		{"a number twice of the first before a wrong number of the second", [][]int{{1, 1}, {2, 0}}, api.ErrTwice},
		{"a number below 0", [][]int{{-1, 0}, {1, 0}}, api.ErrNone},
		{"a number that is no stretch, twice", [][]int{{1, 0}, {2, 2}}, api.ErrNone},
		{"a number at the end of int", [][]int{{0, math.MaxInt}, {1, 0}}, api.ErrNone},
		{"a number at the other end of int", [][]int{{0, 1}, {0, math.MinInt}}, api.ErrNone},
		{"a number twice before a wrong number", [][]int{{0, 0, 3}, {0, 1, 2}, {0, 1, 2}}, api.ErrTwice},
		{"a wrong number before a number twice", [][]int{{3, 0, 0}, {0, 1, 2}, {0, 1, 2}}, api.ErrNone},
		{"a number that occurs twice, not side by side", [][]int{{0, 1, 2}, {0, 1, 2}, {2, 1, 2}}, api.ErrTwice},
		{"the last number of six lists", append(alike(6)[:5], list(0, 1, 2, 3, 4, 4)), api.ErrTwice},
	}
}

// P2.1.
func TestCheck(t *testing.T) {
	for _, good := range [][][]int{wishesW(), {{0}}, alike(2), content(3), content(5), alike(6)} {
		if e := grant.Check(good); e != api.OK {
			t.Errorf("Check(%v) = %d, want OK", good, e)
		}
	}
	for _, bad := range allBadWishes() {
		if e := grant.Check(bad.wishes); e != bad.want {
			t.Errorf("%s: Check = %d, want %d", bad.name, e, bad.want)
		}
	}
}

// call is a call of a function: whether it returned nothing besides its error, and this error.
type call struct {
	name string
	run  func() (bool, api.Errno)
}

func calls(wishes [][]int, holds, gets, group []int) []call {
	return []call{
		{"Listed", func() (bool, api.Errno) { return true, grant.Listed(wishes, holds) }},
		{"Trade", func() (bool, api.Errno) { l, e := grant.Trade(wishes, holds); return len(l) == 0, e }},
		{"Rounds", func() (bool, api.Errno) { l, e := grant.Rounds(wishes, holds); return len(l) == 0, e }},
		{"Rings", func() (bool, api.Errno) { l, e := grant.Rings(wishes, holds); return len(l) == 0, e }},
		{"Ranks", func() (bool, api.Errno) { l, e := grant.Ranks(wishes, holds); return len(l) == 0, e }},
		{"Turn", func() (bool, api.Errno) { l, e := grant.Turn(wishes, holds); return len(l) == 0, e }},
		{"Order", func() (bool, api.Errno) { l, e := grant.Order(wishes, holds); return len(l) == 0, e }},
		{"Count", func() (bool, api.Errno) { n, e := grant.Count(wishes, holds); return n == 0, e }},
		{"Why", func() (bool, api.Errno) { l, e := grant.Why(wishes, holds, gets); return len(l) == 0, e }},
		{"Proves", func() (bool, api.Errno) { return true, grant.Proves(wishes, holds, gets, group) }},
	}
}

// P2.1: the error of the wishes comes before those of all other arguments; R2: nothing besides it.
func TestBadWishesFirst(t *testing.T) {
	for _, bad := range allBadWishes() {
		for _, holds := range [][]int{nil, list(0), list(1, 0), list(0, 0), list(-1, 9), upTo(7)} {
			for _, c := range calls(bad.wishes, holds, nil, nil) {
				if zero, e := c.run(); !zero || e != bad.want {
					t.Errorf("%s: %s returns error %d, zero value %t, want %d", bad.name, c.name, e, zero, bad.want)
				}
			}
		}
	}
}

type badList struct {
	name string
	list []int
	want api.Errno
}

// badLists are wrong as holdings, as a result and as an order of four holders.
func badLists() []badList {
	return []badList{
		{"none", nil, api.ErrShape},
		{"three numbers", list(0, 1, 2), api.ErrShape},
		{"five numbers", list(0, 1, 2, 3, 4), api.ErrShape},
		{"five numbers, one of them twice", list(0, 1, 2, 3, 3), api.ErrShape},
		{"a wrong length before a wrong number", list(9, 9), api.ErrShape},
		{"a number of 4", list(0, 1, 2, 4), api.ErrNone},
		{"a number below 0", list(0, -1, 2, 3), api.ErrNone},
		{"a wrong number before a number twice", list(-1, 1, 1, 2), api.ErrNone},
		{"a wrong number twice", list(0, 4, 4, 1), api.ErrNone},
		{"numbers at the ends of int", list(0, math.MinInt, math.MaxInt, 1), api.ErrNone},
		{"a number twice before a wrong number", list(0, 1, 1, 4), api.ErrTwice},
		{"the first number again", list(0, 1, 2, 0), api.ErrTwice},
	}
}

// P2.1.
func TestListed(t *testing.T) {
	for _, good := range [][]int{own(), list(3, 1, 0, 2), list(3, 2, 1, 0)} {
		if e := grant.Listed(wishesW(), good); e != api.OK {
			t.Errorf("Listed(%v) = %d, want OK", good, e)
		}
	}
	if e := grant.Listed([][]int{{0}}, list(0)); e != api.OK {
		t.Errorf("Listed of one holder = %d, want OK", e)
	}
	for _, bad := range badLists() {
		if e := grant.Listed(wishesW(), bad.list); e != bad.want {
			t.Errorf("%s: Listed = %d, want %d", bad.name, e, bad.want)
		}
	}
}

// P2.1: holdings, results and orders have the error of Listed, the first argument first; R2: nothing besides it.
func TestBadLists(t *testing.T) {
	for _, bad := range badLists() {
		for _, gets := range [][]int{own(), nil, list(0, 0, 0, 0), list(4, 4, 4, 4)} {
			for _, c := range calls(wishesW(), bad.list, gets, list(-1)) {
				if zero, e := c.run(); !zero || e != bad.want {
					t.Errorf("%s: %s returns error %d, zero value %t, want %d", bad.name, c.name, e, zero, bad.want)
				}
			}
		}
		for _, group := range [][]int{nil, list(0, 1), list(-1), list(1, 1)} {
			if e := grant.Proves(wishesW(), own(), bad.list, group); e != bad.want {
				t.Errorf("%s: Proves of a bad result and %v = %d, want %d", bad.name, group, e, bad.want)
			}
		}
		if group, e := grant.Why(wishesW(), own(), bad.list); len(group) > 0 || e != bad.want {
			t.Errorf("%s: Why of a bad result = %v, %d, want %d", bad.name, group, e, bad.want)
		}
	}
}

// P2.2.
func TestTradeRoundsAndRings(t *testing.T) {
	for _, x := range []struct {
		name                string
		wishes              [][]int
		holds, gets, rounds []int
		rings               [][]int
	}{
		{"a ring of three, and one who stays", wishesW(), own(), list(1, 2, 0, 3), list(1, 1, 1, 2), [][]int{{0, 1, 2}, {3}}},
		{"rings of one", wishesW(), list(3, 2, 1, 0), list(3, 2, 1, 0), list(3, 1, 2, 1), [][]int{{1}, {3}, {2}, {0}}},
		{"a ring whose first member is not 0", wishesW(), list(1, 0, 3, 2), list(1, 2, 3, 0), list(1, 1, 2, 1), [][]int{{0}, {1, 3}, {2}}},
		{"one holder", [][]int{{0}}, list(0), list(0), list(1), [][]int{{0}}},
		{"two exchange", [][]int{{1, 0}, {0, 1}}, list(0, 1), list(1, 0), list(1, 1), [][]int{{0, 1}}},
		{"two have the best already", [][]int{{1, 0}, {0, 1}}, list(1, 0), list(1, 0), list(1, 1), [][]int{{0}, {1}}},
		{"a ring told along the pointers", [][]int{{2, 1, 0}, {0, 1, 2}, {1, 0, 2}}, list(0, 1, 2), list(2, 0, 1), list(1, 1, 1), [][]int{{0, 2, 1}}},
		{"all alike", alike(6), list(5, 4, 3, 2, 1, 0), list(5, 4, 3, 2, 1, 0), list(6, 5, 4, 3, 2, 1), [][]int{{5}, {4}, {3}, {2}, {1}, {0}}},
		{"all content", content(6), upTo(6), upTo(6), list(1, 1, 1, 1, 1, 1), [][]int{{0}, {1}, {2}, {3}, {4}, {5}}},
		{"all content with another one's", content(3), list(1, 2, 0), list(0, 1, 2), list(1, 1, 1), [][]int{{0, 2, 1}}},
		{"a ring of the second round that begins with a smaller holder", [][]int{{3, 1, 0, 2}, {3, 0, 1, 2}, {3, 0, 1, 2}, {2, 0, 1, 3}}, own(),
			list(1, 0, 3, 2), list(2, 2, 1, 1), [][]int{{2, 3}, {0, 1}}},
		{"two rings of one round, one between the members of the other", [][]int{{2, 0, 1, 3}, {3, 0, 1, 2}, {0, 1, 2, 3}, {1, 0, 2, 3}}, own(),
			list(2, 3, 0, 1), list(1, 1, 1, 1), [][]int{{0, 2}, {1, 3}}},
		{"a long row of holders who wait", [][]int{{1, 0, 2, 3, 4, 5}, {2, 1, 0, 3, 4, 5}, {3, 2, 0, 1, 4, 5}, {4, 3, 0, 1, 2, 5}, {5, 4, 0, 1, 2, 3}, {5, 0, 1, 2, 3, 4}}, upTo(6),
			upTo(6), list(6, 5, 4, 3, 2, 1), [][]int{{5}, {4}, {3}, {2}, {1}, {0}}},
		{"a ring of all", [][]int{{1, 0, 2, 3, 4, 5}, {2, 0, 1, 3, 4, 5}, {3, 0, 1, 2, 4, 5}, {4, 0, 1, 2, 3, 5}, {5, 0, 1, 2, 3, 4}, {0, 1, 2, 3, 4, 5}}, upTo(6),
			list(1, 2, 3, 4, 5, 0), list(1, 1, 1, 1, 1, 1), [][]int{{0, 1, 2, 3, 4, 5}}},
	} {
		if got, e := grant.Trade(x.wishes, x.holds); !slices.Equal(got, x.gets) || e != api.OK {
			t.Errorf("%s: Trade = %v, %d, want %v", x.name, got, e, x.gets)
		}
		if got, e := grant.Rounds(x.wishes, x.holds); !slices.Equal(got, x.rounds) || e != api.OK {
			t.Errorf("%s: Rounds = %v, %d, want %v", x.name, got, e, x.rounds)
		}
		if got, e := grant.Rings(x.wishes, x.holds); !sameLists(got, x.rings) || e != api.OK {
			t.Errorf("%s: Rings = %v, %d, want %v", x.name, got, e, x.rings)
		}
	}
}

// P2.3.
func TestRanks(t *testing.T) {
	for _, x := range []struct {
		wishes     [][]int
		gets, want []int
	}{
		{wishesW(), list(1, 2, 0, 3), list(0, 0, 0, 3)},
		{wishesW(), own(), list(1, 2, 2, 3)},
		{[][]int{{0}}, list(0), list(0)},
		{alike(6), list(5, 4, 3, 2, 1, 0), list(5, 4, 3, 2, 1, 0)},
		{content(6), upTo(6), list(0, 0, 0, 0, 0, 0)},
		{[][]int{{2, 0, 1}, {2, 1, 0}, {1, 0, 2}}, list(1, 2, 0), list(2, 0, 1)},
	} {
		if got, e := grant.Ranks(x.wishes, x.gets); !slices.Equal(got, x.want) || e != api.OK {
			t.Errorf("Ranks(%v, %v) = %v, %d, want %v", x.wishes, x.gets, got, e, x.want)
		}
	}
}

// P2.4.
func TestWhy(t *testing.T) {
	for _, x := range []struct {
		name        string
		wishes      [][]int
		holds, gets []int
		want        []int
		e           api.Errno
	}{
		{"two exchange, though three could too", wishesW(), own(), own(), list(0, 1), api.OK},
		{"two exchange", wishesW(), own(), list(1, 0, 2, 3), list(1, 2), api.OK},
		{"only three can", wishesW(), own(), list(0, 2, 1, 3), list(0, 1, 2), api.OK},
		{"the result of the exchange", wishesW(), own(), list(1, 2, 0, 3), nil, api.ErrClash},
		{"one alone keeps what is better", wishesW(), own(), list(3, 2, 1, 0), list(0), api.OK},
		{"one alone with another one's number", wishesW(), list(3, 2, 1, 0), own(), list(1), api.OK},
		{"a greater holder alone before two smaller ones", [][]int{{1, 0, 2}, {0, 1, 2}, {2, 0, 1}}, list(0, 1, 2), list(2, 1, 0), list(0), api.OK},
		{"one who gains, and one who does not mind", [][]int{{1, 0, 2}, {2, 0, 1}, {0, 1, 2}}, list(0, 1, 2), list(1, 0, 2), list(1, 2), api.OK},
		{"all six are needed", [][]int{{1, 0, 2, 3, 4, 5}, {2, 1, 0, 3, 4, 5}, {3, 2, 0, 1, 4, 5}, {4, 3, 0, 1, 2, 5}, {5, 4, 0, 1, 2, 3}, {0, 5, 1, 2, 3, 4}},
			upTo(6), upTo(6), upTo(6), api.OK},
		{"one holder", [][]int{{0}}, list(0), list(0), nil, api.ErrClash},
		{"all alike keep theirs", alike(6), upTo(6), upTo(6), nil, api.ErrClash},
		{"the best is given to another one", alike(6), upTo(6), list(1, 0, 2, 3, 4, 5), list(0), api.OK},
	} {
		got, e := grant.Why(x.wishes, x.holds, x.gets)
		if !slices.Equal(got, x.want) || e != x.e {
			t.Errorf("%s: Why = %v, %d, want %v, %d", x.name, got, e, x.want, x.e)
		}
	}
}

// P2.4.
func TestProves(t *testing.T) {
	for _, x := range []struct {
		name        string
		gets, group []int
		want        api.Errno
	}{
		{"three", own(), list(0, 1, 2), api.OK},
		{"two", own(), list(0, 1), api.OK},
		{"two others", own(), list(1, 2), api.OK},
		{"all, of whom one gains nothing", own(), list(0, 1, 2, 3), api.OK},
		{"one who keeps the own one", own(), list(3), api.ErrProof},
		{"two of whom one loses", own(), list(0, 2), api.ErrProof},
		{"two of whom the other one loses", own(), list(1, 3), api.ErrProof},
		{"one who gains", list(3, 2, 1, 0), list(0), api.OK},
		{"one who loses", list(3, 2, 1, 0), list(1), api.ErrProof},
		{"the result of the exchange", list(1, 2, 0, 3), list(0, 1, 2), api.ErrProof},
		{"the result of the exchange, and all", list(1, 2, 0, 3), list(0, 1, 2, 3), api.ErrProof},
		{"no members", own(), nil, api.ErrEmpty},
		{"no members of a result that is right", list(1, 2, 0, 3), []int{}, api.ErrEmpty},
		{"members that descend", own(), list(1, 0), api.ErrOrder},
		{"a member twice", own(), list(1, 1), api.ErrOrder},
		{"the order before a later number that is no holder", own(), list(1, 1, 4), api.ErrOrder},
		{"a number that is no holder before a later order", own(), list(0, 4, 4), api.ErrNone},
		{"a number that is no holder, and does not ascend", own(), list(0, -1), api.ErrNone},
		{"a number behind the last holder", own(), list(4), api.ErrNone},
		{"a number at the end of int", own(), list(0, math.MaxInt), api.ErrNone},
		{"more numbers than holders", own(), list(0, 1, 2, 3, 4), api.ErrNone},
		{"many numbers", own(), make([]int, 1000), api.ErrOrder},
		{"the order before the proof", list(1, 2, 0, 3), list(3, 0), api.ErrOrder},
	} {
		if e := grant.Proves(wishesW(), own(), x.gets, x.group); e != x.want {
			t.Errorf("%s: Proves(%v, %v) = %d, want %d", x.name, x.gets, x.group, e, x.want)
		}
	}
}

// P2.4: who holds what counts, not the numbers of the holders.
func TestProvesWithHoldings(t *testing.T) {
	for _, x := range []struct {
		holds, gets, group []int
		want               api.Errno
	}{
		{list(3, 2, 1, 0), own(), list(1), api.OK},
		{list(3, 2, 1, 0), own(), list(0), api.ErrProof},
		{list(3, 2, 1, 0), own(), list(3), api.OK},
		{list(1, 0, 3, 2), list(1, 0, 3, 2), list(1, 3), api.OK},
		{list(1, 0, 3, 2), list(1, 0, 3, 2), list(0, 1), api.ErrProof},
	} {
		if e := grant.Proves(wishesW(), x.holds, x.gets, x.group); e != x.want {
			t.Errorf("Proves(%v, %v, %v) = %d, want %d", x.holds, x.gets, x.group, e, x.want)
		}
	}
}

// P2.5.
func TestTurn(t *testing.T) {
	for _, x := range []struct {
		wishes      [][]int
		order, want []int
	}{
		{wishesW(), list(3, 2, 1, 0), list(3, 2, 1, 0)},
		{wishesW(), own(), list(1, 2, 0, 3)},
		{wishesW(), list(1, 3, 0, 2), list(1, 2, 3, 0)},
		{wishesW(), list(2, 0, 3, 1), list(1, 3, 0, 2)},
		{alike(6), list(4, 0, 5, 1, 2, 3), list(1, 3, 4, 5, 0, 2)},
		{content(6), list(4, 0, 5, 1, 2, 3), upTo(6)},
		{[][]int{{0}}, list(0), list(0)},
	} {
		if got, e := grant.Turn(x.wishes, x.order); !slices.Equal(got, x.want) || e != api.OK {
			t.Errorf("Turn(%v, %v) = %v, %d, want %v", x.wishes, x.order, got, e, x.want)
		}
	}
}

// P2.5.
func TestOrderAndCount(t *testing.T) {
	for _, x := range []struct {
		name        string
		wishes      [][]int
		gets, order []int
		count       int
	}{
		{"three who want different ones, and one who wants the rest", wishesW(), list(1, 2, 0, 3), own(), 6},
		{"0 is the last one", wishesW(), list(3, 2, 1, 0), list(1, 3, 2, 0), 3},
		{"no order", wishesW(), own(), nil, 0},
		{"2 is the last one", wishesW(), list(1, 2, 3, 0), list(0, 1, 3, 2), 6},
		{"1 is the last one", wishesW(), list(1, 3, 0, 2), list(0, 2, 3, 1), 3},
		{"some can take theirs, and the others never can", wishesW(), list(0, 2, 1, 3), nil, 0},
		{"only the first can take theirs", [][]int{{0, 1, 2}, {1, 0, 2}, {2, 0, 1}}, list(0, 2, 1), nil, 0},
		{"only the last can take theirs", [][]int{{0, 1, 2}, {1, 0, 2}, {2, 0, 1}}, list(1, 0, 2), nil, 0},
		{"any order", content(6), upTo(6), upTo(6), 720},
		{"one order", alike(6), list(5, 3, 4, 0, 2, 1), list(3, 5, 4, 1, 2, 0), 1},
		{"one holder", [][]int{{0}}, list(0), list(0), 1},
	} {
		lost := api.OK
		if x.order == nil {
			lost = api.ErrLost
		}
		if got, e := grant.Order(x.wishes, x.gets); !slices.Equal(got, x.order) || e != lost {
			t.Errorf("%s: Order = %v, %d, want %v, %d", x.name, got, e, x.order, lost)
		}
		if got, e := grant.Count(x.wishes, x.gets); got != x.count || e != api.OK {
			t.Errorf("%s: Count = %d, %d, want %d", x.name, got, e, x.count)
		}
	}
}
