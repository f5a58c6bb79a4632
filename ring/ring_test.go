package ring_test

import (
	"math"
	"slices"
	"testing"

	"bellarmine/api"
	"bellarmine/ring"
)

func list(numbers ...int) []int { return numbers }

// finds returns finds, two numbers each.
func finds(numbers ...int) [][2]int {
	var l [][2]int
	for i := 0; i < len(numbers); i += 2 {
		l = append(l, [2]int{numbers[i], numbers[i+1]})
	}
	return l
}

// four and two are F and G of the chapter's examples.
func four() [][2]int { return finds(0, 1, 1, 2, 2, 0, 2, 3, 3, 1) }

func two() [][2]int { return finds(0, 1, 1, 0, 0, 1, 1, 0) }

// twelve is a find and its opposite by turns, twelve together.
func twelve() [][2]int { return slices.Repeat(finds(0, 1, 1, 0), 6) }

func upTo(n int) []int {
	numbers := []int{}
	for number := range n {
		numbers = append(numbers, number)
	}
	return numbers
}

func sameLists(a, b [][]int) bool { return slices.EqualFunc(a, b, slices.Equal[[]int]) }

type badFinds struct {
	name  string
	forms int
	finds [][2]int
	want  api.Errno
}

func allBadFinds() []badFinds {
	return []badFinds{
		{"no forms", 0, nil, api.ErrRange},
		{"7 forms", 7, finds(0, 1), api.ErrRange},
		{"fewer than no forms", -1, nil, api.ErrRange},
		{"forms at the end of int", math.MaxInt, nil, api.ErrRange},
		{"forms at the other end of int", math.MinInt, finds(0, 0), api.ErrRange},
		{"7 forms before 13 finds", 7, slices.Repeat(finds(0, 1), 13), api.ErrRange},
		{"no forms before a wrong form", 0, finds(0, 1), api.ErrRange},
		{"13 finds", 2, slices.Repeat(finds(0, 1), 13), api.ErrMany},
		{"13 finds before their forms", 2, slices.Repeat(finds(0, 9), 13), api.ErrMany},
		{"13 finds before the same form twice", 2, make([][2]int, 13), api.ErrMany},
		{"the second number is no form", 2, finds(0, 2), api.ErrNone},
		{"the first number is no form", 2, finds(2, 0), api.ErrNone},
		{"the second number is below 0", 6, finds(0, -1), api.ErrNone},
		{"the first number is below 0", 6, finds(-1, 0), api.ErrNone},
		{"numbers at the ends of int", 6, finds(math.MaxInt, math.MinInt), api.ErrNone},
		{"a number that is no form, twice", 2, finds(2, 2), api.ErrNone},
		{"a number below 0, twice", 2, finds(-1, -1), api.ErrNone},
		{"a wrong form before a form twice", 3, finds(0, 1, 3, 1, 1, 1), api.ErrNone},
		{"a wrong form of the twelfth find", 2, append(slices.Repeat(finds(0, 1), 11), [2]int{1, 2}), api.ErrNone},
		{"the same form twice", 2, finds(1, 1), api.ErrClash},
		{"the only form twice", 1, finds(0, 0), api.ErrClash},
		{"a form twice before a wrong form", 2, finds(0, 1, 1, 1, 5, 0), api.ErrClash},
		{"the last form twice in the twelfth find", 6, append(slices.Repeat(finds(0, 1), 11), [2]int{5, 5}), api.ErrClash},
	}
}

// P4.1.
func TestCheck(t *testing.T) {
	for _, good := range []struct {
		forms int
		finds [][2]int
	}{
		{4, four()}, {2, two()}, {2, twelve()}, {1, nil}, {1, finds()}, {6, nil}, {6, finds(5, 0, 0, 5, 4, 5)},
		{6, slices.Repeat(finds(5, 4), 12)}, {2, finds(0, 1)}, {2, finds(1, 0)},
	} {
		if e := ring.Check(good.forms, good.finds); e != api.OK {
			t.Errorf("Check(%d, %v) = %d, want OK", good.forms, good.finds, e)
		}
	}
	for _, bad := range allBadFinds() {
		if e := ring.Check(bad.forms, bad.finds); e != bad.want {
			t.Errorf("%s: Check = %d, want %d", bad.name, e, bad.want)
		}
	}
}

// call is a call of a function: whether it returned nothing besides its error, and this error.
type call struct {
	name string
	run  func() (bool, api.Errno)
}

// calls are the calls of all functions but Check; the functions that have a list besides the finds have the given one.
func calls(forms int, f [][2]int, l []int) []call {
	return []call{
		{"Against", func() (bool, api.Errno) { got, e := ring.Against(forms, f, l); return len(got) == 0, e }},
		{"Fewest", func() (bool, api.Errno) { got, e := ring.Fewest(forms, f); return got == 0, e }},
		{"Order", func() (bool, api.Errno) { got, e := ring.Order(forms, f); return len(got) == 0, e }},
		{"Count", func() (bool, api.Errno) { got, e := ring.Count(forms, f); return got == 0, e }},
		{"Sure", func() (bool, api.Errno) { got, e := ring.Sure(forms, f); return len(got) == 0, e }},
		{"Strike", func() (bool, api.Errno) { got, e := ring.Strike(forms, f); return len(got) == 0, e }},
		{"Turn", func() (bool, api.Errno) { got, e := ring.Turn(forms, f, l); return len(got) == 0, e }},
		{"Ring", func() (bool, api.Errno) { got, e := ring.Ring(forms, f); return len(got) == 0, e }},
		{"Proves", func() (bool, api.Errno) { return true, ring.Proves(forms, f, l) }},
		{"Apart", func() (bool, api.Errno) { got, e := ring.Apart(forms, f); return len(got) == 0, e }},
	}
}

// P4.1: the error of the finds comes before those of all other arguments; R2: nothing besides it.
func TestBadFindsFirst(t *testing.T) {
	for _, bad := range allBadFinds() {
		for _, l := range [][]int{nil, list(0), list(0, 1), list(1, 0), list(1, 1), list(-1, 9), upTo(6), upTo(13)} {
			for _, c := range calls(bad.forms, bad.finds, l) {
				if zero, e := c.run(); !zero || e != bad.want {
					t.Errorf("%s: %s returns error %d, zero value %t, want %d", bad.name, c.name, e, zero, bad.want)
				}
			}
		}
	}
}

// P4.1.
func TestAgainst(t *testing.T) {
	for _, x := range []struct {
		name  string
		forms int
		finds [][2]int
		order []int
		want  []int
	}{
		{"four forms in ascending order", 4, four(), list(0, 1, 2, 3), list(2, 4)},
		{"the first best one", 4, four(), list(2, 0, 3, 1), list(1)},
		{"four forms in descending order", 4, four(), list(3, 2, 1, 0), list(0, 1, 3)},
		{"the same finds by turns", 2, two(), list(0, 1), list(1, 3)},
		{"the same finds by turns, the other way round", 2, two(), list(1, 0), list(0, 2)},
		{"an order that contradicts all", 3, finds(0, 1, 1, 2, 0, 2), list(2, 1, 0), list(0, 1, 2)},
		{"an order that contradicts none", 3, finds(0, 1, 1, 2, 0, 2), list(0, 1, 2), nil},
		{"forms far apart", 6, finds(5, 0, 0, 5), upTo(6), list(0)},
		{"forms that no find has", 6, finds(2, 4), list(5, 4, 3, 2, 1, 0), list(0)},
		{"no finds", 3, nil, list(1, 2, 0), nil},
		{"one form", 1, nil, list(0), nil},
		{"twelve finds", 2, slices.Repeat(finds(1, 0), 12), list(0, 1), upTo(12)},
	} {
		if l, e := ring.Against(x.forms, x.finds, x.order); !slices.Equal(l, x.want) || e != api.OK {
			t.Errorf("%s: Against = %v, %d, want %v", x.name, l, e, x.want)
		}
	}
}

// P4.1: the errors of an order; R2: nothing besides them.
func TestBadOrders(t *testing.T) {
	for _, bad := range []struct {
		name  string
		order []int
		want  api.Errno
	}{
		{"none", nil, api.ErrShape},
		{"an empty one", []int{}, api.ErrShape},
		{"three forms", list(0, 1, 2), api.ErrShape},
		{"five forms", list(0, 1, 2, 3, 4), api.ErrShape},
		{"five forms, one of them twice", list(0, 1, 2, 3, 3), api.ErrShape},
		{"a wrong length before a wrong number", list(9, 9), api.ErrShape},
		{"a form of 4", list(0, 1, 2, 4), api.ErrNone},
		{"a form below 0", list(-1, 1, 2, 3), api.ErrNone},
		{"a wrong number before a form twice", list(4, 1, 1, 2), api.ErrNone},
		{"a wrong number twice", list(0, 4, 4, 1), api.ErrNone},
		{"numbers at the ends of int", list(0, math.MinInt, math.MaxInt, 1), api.ErrNone},
		{"a form twice before a wrong number", list(0, 0, 1, 4), api.ErrTwice},
		{"the first form again", list(2, 1, 3, 2), api.ErrTwice},
	} {
		for _, f := range [][][2]int{four(), two(), nil} {
			if l, e := ring.Against(4, f, bad.order); len(l) != 0 || e != bad.want {
				t.Errorf("%s: Against of %v = %v, %d, want %d", bad.name, f, l, e, bad.want)
			}
		}
	}
}

// weighed is finds, and what is known of the orders that contradict the fewest of them.
type weighed struct {
	name          string
	forms         int
	finds         [][2]int
	fewest, count int
	order         []int
	sure          [][2]int
	strike        []int
}

func allWeighed() []weighed {
	return []weighed{
		{"F", 4, four(), 1, 2, list(2, 0, 3, 1), finds(0, 1, 2, 0, 2, 1, 2, 3, 3, 1), list(1)},
		{"G", 2, two(), 2, 2, list(0, 1), nil, list(0, 2)},
		{"three forms, no finds", 3, nil, 0, 6, list(0, 1, 2), nil, nil},
		{"one form", 1, nil, 0, 1, list(0), nil, nil},
		{"six forms, no finds", 6, nil, 0, 720, upTo(6), nil, nil},
		{"one find", 2, finds(1, 0), 0, 1, list(1, 0), finds(1, 0), nil},
		{"one find of four forms", 4, finds(3, 0), 0, 12, list(1, 2, 3, 0), finds(3, 0), nil},
		{"a row", 3, finds(2, 1, 1, 0), 0, 1, list(2, 1, 0), finds(1, 0, 2, 0, 2, 1), nil},
		{"a row of six", 6, finds(5, 4, 4, 3, 3, 2, 2, 1, 1, 0), 0, 1, list(5, 4, 3, 2, 1, 0),
			finds(1, 0, 2, 0, 2, 1, 3, 0, 3, 1, 3, 2, 4, 0, 4, 1, 4, 2, 4, 3, 5, 0, 5, 1, 5, 2, 5, 3, 5, 4), nil},
		{"a ring of three", 3, finds(0, 1, 1, 2, 2, 0), 1, 3, list(0, 1, 2), nil, list(0)},
		{"a ring of three, one find twice", 3, finds(0, 1, 0, 1, 1, 2, 2, 0), 1, 2, list(0, 1, 2), finds(0, 1), list(2)},
		{"one against two", 2, finds(1, 0, 1, 0, 0, 1), 1, 1, list(1, 0), finds(1, 0), list(2)},
		{"two pairs that contradict one another", 4, finds(0, 1, 1, 0, 2, 3, 3, 2), 2, 24, upTo(4), nil, list(0, 2)},
		{"twelve finds by turns", 2, twelve(), 6, 2, list(0, 1), nil, list(0, 2, 4, 6, 8, 10)},
		{"a ring of three, told from another find on", 3, finds(2, 0, 0, 1, 1, 2), 1, 3, list(0, 1, 2), nil, list(0)},
		{"the first order does not contradict the first list", 2, finds(0, 1, 1, 0), 1, 2, list(0, 1), nil, list(0)},
		{"a ring of six", 6, finds(0, 1, 1, 2, 2, 3, 3, 4, 4, 5, 5, 0), 1, 6, upTo(6), nil, list(0)},
		{"two lists, one of them of two orders", 3, finds(0, 1, 0, 2, 1, 0, 2, 0, 2, 0), 2, 3, list(1, 2, 0),
			finds(2, 0), list(0, 1)},
	}
}

// P4.2, P4.3, P4.4.
func TestWeighed(t *testing.T) {
	for _, x := range allWeighed() {
		if n, e := ring.Fewest(x.forms, x.finds); n != x.fewest || e != api.OK {
			t.Errorf("%s: Fewest = %d, %d, want %d", x.name, n, e, x.fewest)
		}
		if n, e := ring.Count(x.forms, x.finds); n != x.count || e != api.OK {
			t.Errorf("%s: Count = %d, %d, want %d", x.name, n, e, x.count)
		}
		if l, e := ring.Order(x.forms, x.finds); !slices.Equal(l, x.order) || e != api.OK {
			t.Errorf("%s: Order = %v, %d, want %v", x.name, l, e, x.order)
		}
		if l, e := ring.Sure(x.forms, x.finds); !slices.Equal(l, x.sure) || e != api.OK {
			t.Errorf("%s: Sure = %v, %d, want %v", x.name, l, e, x.sure)
		}
		if l, e := ring.Strike(x.forms, x.finds); !slices.Equal(l, x.strike) || e != api.OK {
			t.Errorf("%s: Strike = %v, %d, want %v", x.name, l, e, x.strike)
		}
	}
}

// P4.5.
func TestTurn(t *testing.T) {
	for _, x := range []struct {
		name  string
		forms int
		finds [][2]int
		which []int
		want  [][2]int
	}{
		{"one find", 4, four(), list(1), finds(0, 1, 2, 1, 2, 0, 2, 3, 3, 1)},
		{"the first and the last one", 4, four(), list(0, 4), finds(1, 0, 1, 2, 2, 0, 2, 3, 1, 3)},
		{"all", 2, two(), upTo(4), finds(1, 0, 0, 1, 1, 0, 0, 1)},
		{"none of some", 4, four(), nil, four()},
		{"none of none", 1, nil, nil, nil},
		{"the last one of twelve", 2, twelve(), list(11), append(twelve()[:11], [2]int{0, 1})},
	} {
		if l, e := ring.Turn(x.forms, x.finds, x.which); !slices.Equal(l, x.want) || e != api.OK {
			t.Errorf("%s: Turn = %v, %d, want %v", x.name, l, e, x.want)
		}
	}
}

// P4.5: the errors of indices; R2: nothing besides them.
func TestBadTurns(t *testing.T) {
	for _, bad := range []struct {
		name  string
		which []int
		want  api.Errno
	}{
		{"an index of 5", list(5), api.ErrNone},
		{"an index below 0", list(-1), api.ErrNone},
		{"indices at the ends of int", list(0, math.MaxInt, math.MinInt), api.ErrNone},
		{"an index of 5 behind a right one", list(0, 5), api.ErrNone},
		{"a number that is no index, and not greater", list(0, -1), api.ErrNone},
		{"a wrong number before a descent", list(5, 1, 0), api.ErrNone},
		{"a descent", list(2, 1), api.ErrOrder},
		{"the same index twice", list(1, 1), api.ErrOrder},
		{"the first index twice", list(0, 0), api.ErrOrder},
		{"a descent before a wrong number", list(1, 0, -1), api.ErrOrder},
		{"a descent at the end", list(0, 2, 4, 3), api.ErrOrder},
		{"one more than the finds", list(0, 1, 2, 3, 4, 4), api.ErrOrder},
	} {
		if l, e := ring.Turn(4, four(), bad.which); len(l) != 0 || e != bad.want {
			t.Errorf("%s: Turn = %v, %d, want %d", bad.name, l, e, bad.want)
		}
	}
	if l, e := ring.Turn(2, nil, list(0)); len(l) != 0 || e != api.ErrNone {
		t.Errorf("no finds: Turn = %v, %d, want ErrNone", l, e)
	}
}

// P4.6, P4.7.
func TestRingAndApart(t *testing.T) {
	for _, x := range []struct {
		name  string
		forms int
		finds [][2]int
		ring  []int
		apart [][]int
	}{
		{"F", 4, four(), list(0, 1, 2), [][]int{{0, 1, 2}}},
		{"G", 2, two(), list(0, 1), [][]int{{0, 1}, {2, 3}}},
		{"a shorter ring behind a longer one", 3, finds(0, 1, 1, 2, 2, 0, 1, 0), list(0, 3), [][]int{{0, 1, 2}}},
		{"the shortest ring is not in the most", 3, finds(0, 1, 1, 2, 2, 0, 1, 0, 0, 1), list(0, 3), [][]int{{0, 1, 2}, {3, 4}}},
		{"the first ring is not in the most", 3, finds(0, 1, 1, 0, 0, 2, 2, 1, 1, 0, 0, 1), list(0, 1), [][]int{{0, 1}, {2, 3, 4}}},
		{"the first ring must be passed over", 4, finds(0, 1, 1, 2, 2, 3, 3, 0, 2, 1, 1, 0), list(0, 5), [][]int{{0, 5}, {1, 4}}},
		{"two rings side by side", 4, finds(0, 1, 1, 0, 2, 3, 3, 2), list(0, 1), [][]int{{0, 1}, {2, 3}}},
		{"a ring against the order of the indices", 3, finds(2, 0, 1, 2, 0, 1), list(0, 2, 1), [][]int{{0, 2, 1}}},
		{"a ring that does not begin at the form 0", 3, finds(2, 0, 0, 1, 1, 2), list(0, 1, 2), [][]int{{0, 1, 2}}},
		{"the same find twice", 2, finds(0, 1, 0, 1, 1, 0), list(0, 2), [][]int{{0, 2}}},
		{"two rings that share a form", 3, finds(0, 1, 1, 0, 1, 2, 2, 1), list(0, 1), [][]int{{0, 1}, {2, 3}}},
		{"a ring of six", 6, finds(0, 1, 1, 2, 2, 3, 3, 4, 4, 5, 5, 0), upTo(6), [][]int{upTo(6)}},
		{"two rings of six", 6, finds(0, 1, 1, 2, 2, 3, 3, 4, 4, 5, 5, 0, 0, 1, 1, 2, 2, 3, 3, 4, 4, 5, 5, 0), upTo(6),
			[][]int{upTo(6), {6, 7, 8, 9, 10, 11}}},
		{"twelve finds by turns", 2, twelve(), list(0, 1), [][]int{{0, 1}, {2, 3}, {4, 5}, {6, 7}, {8, 9}, {10, 11}}},
		{"twelve finds, the opposite ones last", 2, append(slices.Repeat(finds(0, 1), 6), slices.Repeat(finds(1, 0), 6)...),
			list(0, 6), [][]int{{0, 6}, {1, 7}, {2, 8}, {3, 9}, {4, 10}, {5, 11}}},
	} {
		if l, e := ring.Ring(x.forms, x.finds); !slices.Equal(l, x.ring) || e != api.OK {
			t.Errorf("%s: Ring = %v, %d, want %v", x.name, l, e, x.ring)
		}
		if l, e := ring.Apart(x.forms, x.finds); !sameLists(l, x.apart) || e != api.OK {
			t.Errorf("%s: Apart = %v, %d, want %v", x.name, l, e, x.apart)
		}
	}
}

// P4.6, P4.7: there is no ring.
func TestNoRing(t *testing.T) {
	for _, x := range []struct {
		forms int
		finds [][2]int
	}{
		{1, nil}, {3, nil}, {3, finds(0, 1)}, {2, slices.Repeat(finds(1, 0), 12)}, {3, finds(0, 1, 1, 2, 0, 2)},
		{6, finds(5, 4, 4, 3, 3, 2, 2, 1, 1, 0, 5, 0, 4, 0, 3, 0, 2, 0)},
	} {
		if l, e := ring.Ring(x.forms, x.finds); len(l) != 0 || e != api.ErrClash {
			t.Errorf("Ring(%d, %v) = %v, %d, want ErrClash", x.forms, x.finds, l, e)
		}
		if l, e := ring.Apart(x.forms, x.finds); len(l) != 0 || e != api.OK {
			t.Errorf("Apart(%d, %v) = %v, %d, want none", x.forms, x.finds, l, e)
		}
	}
}

// P4.6.
func TestProves(t *testing.T) {
	eight := finds(0, 1, 1, 0, 0, 2, 2, 0)
	for _, x := range []struct {
		name  string
		forms int
		finds [][2]int
		ring  []int
		want  api.Errno
	}{
		{"a ring", 4, four(), list(0, 1, 2), api.OK},
		{"another ring", 4, four(), list(1, 3, 4), api.OK},
		{"a ring of two", 2, two(), list(0, 3), api.OK},
		{"a ring that is not the shortest one", 3, finds(0, 1, 1, 2, 2, 0, 1, 0), list(0, 1, 2), api.OK},
		{"a ring of six", 6, finds(0, 1, 5, 0, 4, 5, 3, 4, 2, 3, 1, 2), list(0, 5, 4, 3, 2, 1), api.OK},
		{"a ring told from its greatest index on", 4, four(), list(4, 1, 3), api.ErrProof},
		{"a ring told from one in the middle on", 4, four(), list(3, 4, 1), api.ErrProof},
		{"a ring told backwards", 4, four(), list(0, 2, 1), api.ErrProof},
		{"not closed", 4, four(), list(0, 1), api.ErrProof},
		{"a gap", 4, four(), list(0, 3, 2), api.ErrProof},
		{"one find", 4, four(), list(0), api.ErrProof},
		{"no finds of some", 4, four(), nil, api.ErrProof},
		{"no finds at all", 1, nil, nil, api.ErrProof},
		{"more than a ring", 4, four(), list(0, 1, 3, 4), api.ErrProof},
		{"two rings in one list", 3, eight, list(0, 1, 2, 3), api.ErrProof},
		{"two rings in one list, the second one inside", 3, eight, list(0, 2, 3, 1), api.ErrProof},
		{"the same find, and its double", 2, two(), list(0, 2), api.ErrProof},
		{"all finds of twelve", 2, twelve(), upTo(12), api.ErrProof},
		{"a find of 5", 4, four(), list(0, 5), api.ErrNone},
		{"a find below 0", 4, four(), list(-1, 0, 0), api.ErrNone},
		{"finds at the ends of int", 4, four(), list(0, math.MaxInt, math.MinInt), api.ErrNone},
		{"a find of none", 2, nil, list(0), api.ErrNone},
		{"a wrong find before one twice", 4, four(), list(5, 0, 0), api.ErrNone},
		{"a wrong find twice", 4, four(), list(0, 5, 5), api.ErrNone},
		{"a find twice before a wrong one", 4, four(), list(0, 0, 5), api.ErrTwice},
		{"a ring that comes back to its first find", 4, four(), list(0, 1, 2, 0), api.ErrTwice},
		{"a find twice that does not close", 4, four(), list(1, 3, 3), api.ErrTwice},
	} {
		if e := ring.Proves(x.forms, x.finds, x.ring); e != x.want {
			t.Errorf("%s: Proves = %d, want %d", x.name, e, x.want)
		}
	}
}

// withSpare returns a copy of a list with an element behind its end, which must not be written to either.
func withSpare[E any](elements []E, spare E) []E {
	return append(slices.Clone(elements), spare)[:len(elements)]
}

// overwrite writes to all memory of a list, also behind its end.
func overwrite[E any](elements []E, with E) {
	elements = elements[:cap(elements)]
	for i := range elements {
		elements[i] = with
	}
}

// R4: arguments stay as they were, and results share no memory with them or with one another.
func TestOwnMemory(t *testing.T) {
	spare := [2]int{-7, -7}
	f, g := withSpare(four(), spare), withSpare(two(), spare)
	order, which, proof := withSpare(upTo(4), -7), withSpare(list(0, 4), -7), withSpare(list(1, 3, 4), -7)
	for range 2 {
		wrong, _ := ring.Against(4, f, order)
		best, _ := ring.Order(4, f)
		sure, _ := ring.Sure(4, f)
		strike, _ := ring.Strike(4, f)
		turned, _ := ring.Turn(4, f, which)
		same, _ := ring.Turn(4, f, nil)
		first, _ := ring.Ring(4, f)
		apart, _ := ring.Apart(2, g)
		overwrite(apart[0], -99)
		if !slices.Equal(wrong, list(2, 4)) || !slices.Equal(best, list(2, 0, 3, 1)) || len(sure) != 5 || !slices.Equal(strike, list(1)) ||
			turned[0] != [2]int{1, 0} || !slices.Equal(same, four()) || !slices.Equal(first, upTo(3)) || !slices.Equal(apart[1], list(2, 3)) {
			t.Fatalf("results after others were overwritten: %v %v %v %v %v %v %v %v", wrong, best, sure, strike, turned, same, first, apart)
		}
		for _, l := range [][]int{wrong, best, strike, first, apart[1]} {
			overwrite(l, -99)
		}
		for _, l := range [][][2]int{sure, turned, same} {
			overwrite(l, [2]int{-99, -99})
		}
		overwrite(apart, nil)
		ring.Check(4, f)
		ring.Fewest(4, f)
		ring.Count(4, f)
		ring.Proves(4, f, proof)
	}
	if !slices.Equal(f[:6], append(four(), spare)) || !slices.Equal(g[:5], append(two(), spare)) {
		t.Errorf("finds were changed: %v %v", f[:6], g[:5])
	}
	if !slices.Equal(order[:5], list(0, 1, 2, 3, -7)) || !slices.Equal(which[:3], list(0, 4, -7)) || !slices.Equal(proof[:4], list(1, 3, 4, -7)) {
		t.Errorf("lists were changed: %v %v %v", order[:5], which[:3], proof[:4])
	}
}

// P1: every function returns for all arguments, and the same for equal ones; R3: nil is a list without elements.
func TestAllArguments(t *testing.T) {
	lists := [][]int{nil, {}, {0}, {-1}, {1}, {math.MaxInt, math.MinInt}, {0, 1}, {1, 0}, {1, 1}, {0, 2}, {2, 0, 1}, {0, 1, 2},
		{5, 4, 3, 2, 1, 0}, upTo(6), upTo(12), upTo(13), make([]int, 6), make([]int, 1000), upTo(1000)}
	some := [][][2]int{nil, {}, finds(0, 0), finds(0, 1), finds(1, 0), finds(-1, 1), four(), two(), twelve(), make([][2]int, 12),
		make([][2]int, 13), make([][2]int, 1000), finds(math.MaxInt, math.MinInt), finds(5, 0, 0, 5), slices.Repeat(finds(0, 1, 1, 2, 2, 0), 4),
		finds(0, 1, 1, 2, 2, 3, 3, 4, 4, 5, 5, 0, 0, 1, 1, 2, 2, 3, 3, 4, 4, 5, 5, 0)}
	for _, forms := range []int{math.MinInt, -1, 0, 1, 2, 3, 4, 6, 7, 64, math.MaxInt} {
		for _, f := range some {
			for _, l := range lists {
				if got, again := answers(forms, f, l), answers(forms, f, l); !slices.Equal(got, again) {
					t.Fatalf("%d, %v, %v: %v, then %v", forms, f, l, got, again)
				}
			}
			if got, want := answers(forms, f, nil), answers(forms, f, []int{}); !slices.Equal(got, want) {
				t.Errorf("%d, %v: %v with nil, %v with a list without elements", forms, f, got, want)
			}
		}
		if got, want := answers(forms, nil, upTo(2)), answers(forms, [][2]int{}, upTo(2)); !slices.Equal(got, want) {
			t.Errorf("%d forms: %v with nil, %v with finds without elements", forms, got, want)
		}
	}
}

// answers calls all functions and returns all numbers that they return.
func answers(forms int, f [][2]int, l []int) []int {
	all := []int{int(ring.Check(forms, f)), int(ring.Proves(forms, f, l))}
	add := func(numbers []int, e api.Errno) { all = append(append(append(all, len(numbers)), numbers...), int(e)) }
	addPairs := func(pairs [][2]int, e api.Errno) {
		for _, pair := range pairs {
			add(pair[:], e)
		}
		add(nil, e)
	}
	add(ring.Against(forms, f, l))
	fewest, e := ring.Fewest(forms, f)
	add(list(fewest), e)
	add(ring.Order(forms, f))
	count, e := ring.Count(forms, f)
	add(list(count), e)
	addPairs(ring.Sure(forms, f))
	add(ring.Strike(forms, f))
	addPairs(ring.Turn(forms, f, l))
	add(ring.Ring(forms, f))
	apart, e := ring.Apart(forms, f)
	for _, one := range apart {
		add(one, e)
	}
	add(nil, e)
	return all
}
