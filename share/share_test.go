package share_test

import (
	"math"
	"slices"
	"testing"

	"bellarmine/api"
	"bellarmine/share"
)

func list(numbers ...int) []int { return numbers }

func lists(all ...[]int) [][]int { return all }

func pairs(all ...[2]int) [][2]int { return all }

// two, poor and cross are V, W and X of the chapter's examples.
func two() [][]int { return lists(list(6, 4, 3), list(5, 5, 1)) }

func poor() [][]int { return lists(list(5, 5, 5), list(1, 1, 1)) }

func cross() [][]int { return lists(list(1, 5, 2), list(5, 1, 2)) }

// worthless are values of things that are worth nothing.
func worthless(finders, things int) [][]int {
	var values [][]int
	for range finders {
		values = append(values, make([]int, things))
	}
	return values
}

func upTo(n int) []int {
	numbers := []int{}
	for number := range n {
		numbers = append(numbers, number)
	}
	return numbers
}

func sameLists(a, b [][]int) bool { return slices.EqualFunc(a, b, slices.Equal[[]int]) }

type badValues struct {
	name   string
	values [][]int
	want   api.Errno
}

func allBadValues() []badValues {
	return []badValues{
		{"nil", nil, api.ErrEmpty},
		{"no finders", lists(), api.ErrEmpty},
		{"5 finders", worthless(5, 1), api.ErrMany},
		{"5 finders without things", make([][]int, 5), api.ErrMany},
		{"very many finders", make([][]int, 100000), api.ErrMany},
		{"7 things", worthless(1, 7), api.ErrMany},
		{"7 things of each of 4 finders", worthless(4, 7), api.ErrMany},
		{"very many things", worthless(2, 100000), api.ErrMany},
		{"5 finders before their values", lists(list(21), list(1, 2), nil, list(-1), nil), api.ErrMany},
		{"7 things before their values", lists(list(-1, 21, 0, 0, 0, 0, 0), list(1)), api.ErrMany},
		{"a list that is too short", lists(list(1, 2), list(1)), api.ErrShape},
		{"a list that is too long", lists(list(1), list(1, 2)), api.ErrShape},
		{"a list that is too long by far", lists(list(1), make([]int, 100000)), api.ErrShape},
		{"7 things of the second finder", lists(list(1, 2, 3, 4, 5, 6), list(1, 2, 3, 4, 5, 6, 7)), api.ErrShape},
		{"no things of the second finder", lists(list(1), nil), api.ErrShape},
		{"no things of the first finder", lists(nil, list(1)), api.ErrShape},
		{"the last list is too short", lists(list(1, 2), list(3, 4), list(5, 6), list(7)), api.ErrShape},
		{"a shape before the values of the same list", lists(list(1, 2), list(21)), api.ErrShape},
		{"a shape before the values of a later list", lists(list(1), list(1, 2), list(-1)), api.ErrShape},
		{"21", lists(list(21)), api.ErrRange},
		{"below 0", lists(list(-1)), api.ErrRange},
		{"21 at the end", lists(list(1, 2, 3), list(4, 5, 6), list(7, 8, 9), list(20, 20, 21)), api.ErrRange},
		{"below 0 in the middle", lists(list(1, 2, 3), list(4, -5, 6), list(7, 8, 9)), api.ErrRange},
		{"the ends of int", lists(list(math.MaxInt, math.MinInt)), api.ErrRange},
		{"values before the shape of a later list", lists(list(1), list(-1), list(1, 2)), api.ErrRange},
		{"values of the first list before the shape of the second one", lists(list(21, 0), list(1)), api.ErrRange},
	}
}

// P7.1.
func TestCheck(t *testing.T) {
	for _, good := range [][][]int{
		two(), poor(), cross(), lists(nil), lists(list()), lists(list(), nil, list(), nil), lists(list(0)), lists(list(20)),
		lists(list(0, 20, 0, 20, 0, 20)), worthless(4, 6), slices.Repeat(lists(list(20, 20, 20, 20, 20, 20)), 4),
	} {
		if e := share.Check(good); e != api.OK {
			t.Errorf("Check(%v) = %d, want OK", good, e)
		}
	}
	for _, bad := range allBadValues() {
		if e := share.Check(bad.values); e != bad.want {
			t.Errorf("%s: Check = %d, want %d", bad.name, e, bad.want)
		}
	}
}

// call is a call of a function: whether it returned nothing besides its error, and this error.
type call struct {
	name string
	run  func() (bool, api.Errno)
}

// ownerCalls are the calls of the functions that have a division.
func ownerCalls(values [][]int, owners []int, one, other int) []call {
	return []call{
		{"Worth", func() (bool, api.Errno) { l, e := share.Worth(values, owners); return len(l) == 0, e }},
		{"Envy", func() (bool, api.Errno) { l, e := share.Envy(values, owners); return len(l) == 0, e }},
		{"Fair", func() (bool, api.Errno) { n, e := share.Fair(values, owners); return n == 0, e }},
		{"Why", func() (bool, api.Errno) { a, b, e := share.Why(values, owners); return a == 0 && b == 0, e }},
		{"Proves", func() (bool, api.Errno) { return true, share.Proves(values, owners, one, other) }},
		{"Better", func() (bool, api.Errno) { l, e := share.Better(values, owners); return len(l) == 0, e }},
	}
}

// calls are the calls of all functions but Check.
func calls(values [][]int, owners, order []int, one, other int) []call {
	return append(ownerCalls(values, owners, one, other),
		call{"Turns", func() (bool, api.Errno) { l, e := share.Turns(values, order); return len(l) == 0, e }},
		call{"Rings", func() (bool, api.Errno) { l, e := share.Rings(values); return len(l) == 0, e }},
		call{"Free", func() (bool, api.Errno) { l, e := share.Free(values); return len(l) == 0, e }},
		call{"Count", func() (bool, api.Errno) { n, e := share.Count(values); return n == 0, e }},
		call{"Most", func() (bool, api.Errno) { l, e := share.Most(values); return len(l) == 0, e }},
	)
}

// P7.1: the error of the values comes before all others; R2: nothing besides it.
func TestBadValuesFirst(t *testing.T) {
	for _, bad := range allBadValues() {
		for _, numbers := range [][]int{nil, list(0), list(0, 1), list(-1, 9), slices.Repeat(list(-1), 9), list(math.MinInt, math.MaxInt)} {
			for _, c := range calls(bad.values, numbers, numbers, -1, -1) {
				if zero, e := c.run(); !zero || e != bad.want {
					t.Errorf("%s: %s returns error %d, zero value %t, want %d", bad.name, c.name, e, zero, bad.want)
				}
			}
		}
	}
}

// P7.1: the error of a division comes before those of finders and proofs; R2: nothing besides it.
func TestBadOwners(t *testing.T) {
	for _, x := range []struct {
		name   string
		values [][]int
		owners []int
		want   api.Errno
	}{
		{"V, a thing too few", two(), list(0, 1), api.ErrShape},
		{"V, a thing too many", two(), list(0, 1, 0, 0), api.ErrShape},
		{"V, no things", two(), nil, api.ErrShape},
		{"V, very many things", two(), make([]int, 100000), api.ErrShape},
		{"V, a shape before a finder", two(), list(2, -1), api.ErrShape},
		{"V, as many as there are finders", two(), list(1, 1), api.ErrShape},
		{"a thing where there is none", lists(nil, nil), list(0), api.ErrShape},
		{"V, a finder 2", two(), list(0, 1, 2), api.ErrNone},
		{"V, a finder below 0", two(), list(-1, 0, 0), api.ErrNone},
		{"V, a finder 2 in the middle", two(), list(0, 2, 0), api.ErrNone},
		{"V, the ends of int", two(), list(math.MaxInt, 0, math.MinInt), api.ErrNone},
		{"one finder, and 1", lists(list(3)), list(1), api.ErrNone},
		{"four finders, and 4", worthless(4, 6), list(0, 1, 2, 3, 4, 0), api.ErrNone},
	} {
		for _, numbers := range [][2]int{{0, 1}, {1, 1}, {-1, 9}} {
			for _, c := range ownerCalls(x.values, x.owners, numbers[0], numbers[1]) {
				if zero, e := c.run(); !zero || e != x.want {
					t.Errorf("%s: %s returns error %d, zero value %t, want %d", x.name, c.name, e, zero, x.want)
				}
			}
		}
	}
}

// judged is a division and what is known of it; byMore are the pairs that Why chooses from.
type judged struct {
	name   string
	values [][]int
	owners []int
	worth  [][]int
	envy   [][2]int
	byMore [][2]int
}

func (x judged) fair() int {
	if len(x.envy) == 0 {
		return 2
	}
	if len(x.byMore) == 0 {
		return 1
	}
	return 0
}

func allJudged() []judged {
	return []judged{
		{"V, 0 1 0", two(), list(0, 1, 0), lists(list(9, 4), list(6, 5)), pairs([2]int{1, 0}), nil},
		{"V, 0 1 1", two(), list(0, 1, 1), lists(list(6, 7), list(5, 6)), pairs([2]int{0, 1}), nil},
		{"V, 1 0 1", two(), list(1, 0, 1), lists(list(4, 9), list(5, 6)), pairs([2]int{0, 1}), nil},
		{"V, all to 1", two(), list(1, 1, 1), lists(list(0, 13), list(0, 11)), pairs([2]int{0, 1}), pairs([2]int{0, 1})},
		{"W, all to 0", poor(), list(0, 0, 0), lists(list(15, 0), list(3, 0)), pairs([2]int{1, 0}), pairs([2]int{1, 0})},
		{"W, 0 1 0", poor(), list(0, 1, 0), lists(list(10, 5), list(2, 1)), pairs([2]int{1, 0}), nil},
		{"X, 1 0 0", cross(), list(1, 0, 0), lists(list(7, 1), list(3, 5)), nil, nil},
		{"X, exchanged", cross(), list(0, 1, 1), lists(list(1, 7), list(5, 3)), pairs([2]int{0, 1}, [2]int{1, 0}), pairs([2]int{0, 1})},
		{"one finder", lists(list(3, 4)), list(0, 0), lists(list(7)), nil, nil},
		{"one finder, no things", lists(nil), nil, lists(list(0)), nil, nil},
		{"no things", lists(nil, list(), nil), list(), lists(list(0, 0, 0), list(0, 0, 0), list(0, 0, 0)), nil, nil},
		{"one thing", lists(list(7), list(7)), list(1), lists(list(0, 7), list(0, 7)), pairs([2]int{0, 1}), nil},
		{"one thing, worth nothing to the other one", lists(list(0), list(7)), list(1), lists(list(0, 0), list(0, 7)), nil, nil},
		{"as much as the other one", lists(list(2, 2), list(1, 1)), list(0, 1), lists(list(2, 2), list(1, 1)), nil, nil},
		{"as much without the dearest thing", lists(list(3, 9, 3), list(1, 1, 1)), list(0, 1, 1),
			lists(list(3, 12), list(1, 2)), pairs([2]int{0, 1}), nil},
		{"more without the dearest thing", lists(list(3, 9, 4), list(1, 1, 1)), list(0, 1, 1),
			lists(list(3, 13), list(1, 2)), pairs([2]int{0, 1}), pairs([2]int{0, 1})},
		{"the dearest thing is the first one", lists(list(9, 4, 3), list(1, 1, 1)), list(1, 1, 0),
			lists(list(3, 13), list(1, 2)), pairs([2]int{0, 1}), pairs([2]int{0, 1})},
		{"the dearest thing to the finder who envies, not to the one who has it", lists(list(1, 9, 1), list(9, 1, 1)), list(1, 1, 0),
			lists(list(1, 10), list(1, 10)), pairs([2]int{0, 1}), nil},
		{"things that are worth nothing to the finder who envies", lists(list(0, 5, 0), list(1, 1, 1)), list(1, 1, 1),
			lists(list(0, 5), list(0, 3)), pairs([2]int{0, 1}), nil},
		{"two finders envy two others", lists(list(4, 4, 4, 1), list(4, 4, 4, 1), list(0, 0, 9, 9)), list(0, 0, 0, 1),
			lists(list(12, 1, 0), list(12, 1, 0), list(9, 9, 0)), pairs([2]int{1, 0}, [2]int{2, 0}, [2]int{2, 1}), pairs([2]int{1, 0})},
		{"all envy the last one", slices.Repeat(lists(list(20, 20, 20, 20, 20, 20)), 4), list(3, 3, 3, 3, 3, 3),
			slices.Repeat(lists(list(0, 0, 0, 120)), 4), pairs([2]int{0, 3}, [2]int{1, 3}, [2]int{2, 3}), pairs([2]int{0, 3}, [2]int{1, 3}, [2]int{2, 3})},
		{"the last one envies all", lists(list(9, 0, 0, 0, 0, 0), list(0, 9, 9, 0, 0, 0), list(0, 0, 0, 9, 9, 9), list(3, 2, 2, 1, 1, 1)),
			list(0, 1, 1, 2, 2, 2), lists(list(9, 0, 0, 0), list(0, 18, 0, 0), list(0, 0, 27, 0), list(3, 4, 3, 0)),
			pairs([2]int{3, 0}, [2]int{3, 1}, [2]int{3, 2}), pairs([2]int{3, 1}, [2]int{3, 2})},
		{"the first one envies two", lists(list(1, 1, 1, 1, 1), list(1, 1, 1, 1, 1), list(1, 1, 1, 1, 1)), list(0, 1, 1, 2, 2),
			slices.Repeat(lists(list(1, 2, 2)), 3), pairs([2]int{0, 1}, [2]int{0, 2}), nil},
	}
}

// P7.2, P7.3: Worth, Envy, Fair and Why.
func TestJudged(t *testing.T) {
	for _, x := range allJudged() {
		if l, e := share.Worth(x.values, x.owners); !sameLists(l, x.worth) || e != api.OK {
			t.Errorf("%s: Worth = %v, %d, want %v", x.name, l, e, x.worth)
		}
		if l, e := share.Envy(x.values, x.owners); !slices.Equal(l, x.envy) || e != api.OK {
			t.Errorf("%s: Envy = %v, %d, want %v", x.name, l, e, x.envy)
		}
		if n, e := share.Fair(x.values, x.owners); n != x.fair() || e != api.OK {
			t.Errorf("%s: Fair = %d, %d, want %d", x.name, n, e, x.fair())
		}
		want, wantError := [2]int{}, api.ErrClash
		if len(x.byMore) > 0 {
			want, wantError = x.byMore[0], api.OK
		}
		if one, other, e := share.Why(x.values, x.owners); one != want[0] || other != want[1] || e != wantError {
			t.Errorf("%s: Why = %d, %d, %d, want %v, %d", x.name, one, other, e, want, wantError)
		}
	}
}

// P7.3: Proves.
func TestProves(t *testing.T) {
	for _, x := range allJudged() {
		for one := range x.values {
			for other := range x.values {
				want := api.ErrProof
				if one == other {
					want = api.ErrTwice
				} else if slices.Contains(x.byMore, [2]int{one, other}) {
					want = api.OK
				}
				if e := share.Proves(x.values, x.owners, one, other); e != want {
					t.Errorf("%s: Proves %d, %d = %d, want %d", x.name, one, other, e, want)
				}
			}
		}
		n := len(x.values)
		for _, bad := range [][2]int{{n, 0}, {0, n}, {-1, 0}, {0, -1}, {n, n}, {-1, -1}, {n, -1}, {math.MaxInt, 0}, {0, math.MinInt}, {math.MinInt, math.MinInt}} {
			if e := share.Proves(x.values, x.owners, bad[0], bad[1]); e != api.ErrNone {
				t.Errorf("%s: Proves %v = %d, want ErrNone", x.name, bad, e)
			}
		}
	}
}

// P7.4.
func TestTurns(t *testing.T) {
	for _, x := range []struct {
		name   string
		values [][]int
		order  []int
		want   []int
	}{
		{"V, 0 first", two(), list(0, 1), list(0, 1, 0)},
		{"V, 1 first", two(), list(1, 0), list(1, 0, 1)},
		{"W", poor(), list(1, 0), list(1, 0, 1)},
		{"X", cross(), list(0, 1), list(1, 0, 0)},
		{"X, 1 first", cross(), list(1, 0), list(1, 0, 1)},
		{"three finders", lists(list(5, 5, 5, 5), list(1, 2, 3, 4), list(4, 3, 2, 1)), list(2, 0, 1), list(2, 0, 2, 1)},
		{"one finder", lists(list(3, 4)), list(0), list(0, 0)},
		{"no things", lists(nil, nil), list(1, 0), nil},
		{"fewer things than finders", lists(list(1, 2), list(1, 2), list(1, 2), list(1, 2)), list(3, 2, 1, 0), list(2, 3)},
		{"things that are worth nothing are taken, too", worthless(4, 6), list(2, 0, 3, 1), list(2, 0, 3, 1, 2, 0)},
		{"the last thing is worth most to all", lists(list(1, 2, 3), list(1, 2, 3), list(1, 2, 3)), list(1, 2, 0), list(0, 2, 1)},
		{"three turns for each of two", lists(list(1, 2, 3, 4, 5, 6), list(20, 20, 1, 1, 20, 20)), list(0, 1), list(1, 1, 1, 0, 0, 0)},
	} {
		if l, e := share.Turns(x.values, x.order); !slices.Equal(l, x.want) || e != api.OK {
			t.Errorf("%s: Turns = %v, %d, want %v", x.name, l, e, x.want)
		}
	}
}

// P7.4: errors of the order; R2: nothing besides them.
func TestBadOrders(t *testing.T) {
	three := lists(list(5, 5, 5, 5), list(1, 2, 3, 4), list(4, 3, 2, 1))
	for _, x := range []struct {
		name   string
		values [][]int
		order  []int
		want   api.Errno
	}{
		{"V, one finder twice", two(), list(0, 0), api.ErrTwice},
		{"V, a finder too few", two(), list(0), api.ErrShape},
		{"V, as many as there are things", two(), list(0, 1, 0), api.ErrShape},
		{"V, none", two(), nil, api.ErrShape},
		{"V, very many", two(), make([]int, 100000), api.ErrShape},
		{"V, a shape before a finder", two(), list(-1, 0, 0), api.ErrShape},
		{"V, a finder 2", two(), list(0, 2), api.ErrNone},
		{"V, a finder below 0", two(), list(-1, 0), api.ErrNone},
		{"V, the ends of int", two(), list(math.MaxInt, math.MinInt), api.ErrNone},
		{"V, a wrong finder twice", two(), list(2, 2), api.ErrNone},
		{"three, twice before a wrong one", three, list(0, 0, 3), api.ErrTwice},
		{"three, a wrong one before twice", three, list(-1, 0, 0), api.ErrNone},
		{"three, a wrong one between", three, list(0, 3, 0), api.ErrNone},
		{"three, the last one is the first one", three, list(1, 0, 1), api.ErrTwice},
		{"no things", lists(nil, nil), list(1, 1), api.ErrTwice},
	} {
		if l, e := share.Turns(x.values, x.order); len(l) != 0 || e != x.want {
			t.Errorf("%s: Turns = %v, %d, want %d", x.name, l, e, x.want)
		}
	}
}

// P7.5.
func TestRings(t *testing.T) {
	for _, x := range []struct {
		name   string
		values [][]int
		want   []int
	}{
		{"V", two(), list(0, 1, 0)},
		{"W", poor(), list(0, 1, 0)},
		{"X, a ring is turned before the last thing", cross(), list(1, 0, 0)},
		{"X without the last thing, so that nothing is turned behind it", lists(list(1, 5), list(5, 1)), list(0, 1)},
		{"three finders", lists(list(5, 5, 5, 5), list(1, 2, 3, 4), list(4, 3, 2, 1)), list(0, 2, 1, 1)},
		{"one finder", lists(list(3, 4)), list(0, 0)},
		{"no things", lists(nil, nil), nil},
		{"things that are worth nothing", worthless(3, 4), list(0, 0, 0, 0)},
		{"a ring of all three", lists(list(1, 9, 1, 1), list(1, 2, 9, 1), list(9, 1, 2, 1)), list(2, 0, 1, 0)},
		{"a ring without the first finder", lists(list(5, 1, 1, 1), list(7, 1, 2, 1), list(1, 2, 1, 1)), list(0, 2, 1, 1)},
		{"two rings, one behind the other", lists(list(1, 2, 3, 1), list(3, 1, 2, 1), list(2, 3, 1, 1)), list(1, 2, 0, 0)},
		{"the smallest one of two who envy", lists(list(1, 2, 4, 3), list(4, 1, 4, 1), list(3, 4, 2, 2)), list(1, 2, 0, 0)},
		{"the first finder begins, though others could", lists(list(3, 4, 5, 3, 4), list(4, 2, 2, 5, 3), list(1, 4, 1, 4, 2), list(4, 3, 2, 3, 2)), list(1, 2, 0, 3, 0)},
	} {
		if l, e := share.Rings(x.values); !slices.Equal(l, x.want) || e != api.OK {
			t.Errorf("%s: Rings = %v, %d, want %v", x.name, l, e, x.want)
		}
	}
}

// P7.6 and P7.7: Free, Count and Most.
func TestFound(t *testing.T) {
	for _, x := range []struct {
		name   string
		values [][]int
		free   []int
		count  int
		most   []int
	}{
		{"V", two(), nil, 0, list(0, 1, 0)},
		{"W", poor(), nil, 0, list(0, 0, 1)},
		{"X", cross(), list(1, 0, 0), 2, list(1, 0, 0)},
		{"one finder", lists(list(3, 4)), list(0, 0), 1, list(0, 0)},
		{"no things", lists(nil, nil), nil, 1, nil},
		{"no things, one finder", lists(list()), nil, 1, nil},
		{"things that are worth nothing", worthless(2, 2), list(0, 0), 4, list(0, 0)},
		{"the most divisions", worthless(4, 6), list(0, 0, 0, 0, 0, 0), 4096, list(0, 0, 0, 0, 0, 0)},
		{"one thing that two want", lists(list(2, 0), list(2, 0)), nil, 0, list(0, 0)},
		{"one thing that the second one wants", lists(list(0), list(7)), list(1), 1, list(1)},
		{"a thing for each of two", lists(list(2, 2), list(2, 2)), list(0, 1), 2, list(0, 1)},
		{"a thing for each of four", slices.Repeat(lists(list(1, 1, 1, 1)), 4), list(0, 1, 2, 3), 24, list(0, 1, 2, 3)},
		{"fewer things than finders", slices.Repeat(lists(list(1, 1)), 3), nil, 0, list(0, 1)},
		{"more finders before a greater product", lists(list(20, 20), list(1, 0)), list(1, 0), 1, list(1, 0)},
		{"the last division", lists(list(0, 0), list(0, 0), list(0, 0), list(1, 1)), list(0, 3), 7, list(3, 3)},
		{"the last division alone", lists(list(0), list(0), list(0), list(1)), list(3), 1, list(3)},
		{"a greater product before a greater sum", lists(list(9, 3, 3), list(0, 2, 2)), list(0, 0, 1), 3, list(0, 1, 1)},
		{"finders who get nothing are not multiplied", lists(list(0, 0), list(3, 4), list(0, 0)), list(0, 1), 3, list(1, 1)},
	} {
		wantError := api.OK
		if x.count == 0 {
			wantError = api.ErrLost
		}
		if l, e := share.Free(x.values); !slices.Equal(l, x.free) || e != wantError {
			t.Errorf("%s: Free = %v, %d, want %v, %d", x.name, l, e, x.free, wantError)
		}
		if n, e := share.Count(x.values); n != x.count || e != api.OK {
			t.Errorf("%s: Count = %d, %d, want %d", x.name, n, e, x.count)
		}
		if l, e := share.Most(x.values); !slices.Equal(l, x.most) || e != api.OK {
			t.Errorf("%s: Most = %v, %d, want %v", x.name, l, e, x.most)
		}
	}
}

// P7.7: Better.
func TestBetter(t *testing.T) {
	apart := lists(list(2, 0), list(0, 2))
	for _, x := range []struct {
		name   string
		values [][]int
		owners []int
		want   []int
		e      api.Errno
	}{
		{"V", two(), list(1, 0, 1), list(0, 1, 1), api.OK},
		{"V, its own most", two(), list(0, 1, 0), nil, api.ErrClash},
		{"V, all to the first one", two(), list(0, 0, 0), nil, api.ErrClash},
		{"W, all to the first one", poor(), list(0, 0, 0), nil, api.ErrClash},
		{"each one has what the other one wants", apart, list(1, 0), list(0, 0), api.OK},
		{"the first one has all", apart, list(0, 0), list(0, 1), api.OK},
		{"the second one has all", apart, list(1, 1), list(0, 1), api.OK},
		{"each one has what this one wants", apart, list(0, 1), nil, api.ErrClash},
		{"as much for all is not better", worthless(2, 2), list(1, 1), nil, api.ErrClash},
		{"no things", lists(nil, nil), nil, nil, api.ErrClash},
		{"one finder", lists(list(3, 4)), list(0, 0), nil, api.ErrClash},
		{"the last division is better", lists(list(0, 0), list(0, 0), list(0, 0), list(0, 1)), list(3, 0), list(0, 3), api.OK},
		{"only the last one", lists(list(0, 0), list(1, 1)), list(0, 1), list(1, 1), api.OK},
	} {
		if l, e := share.Better(x.values, x.owners); !slices.Equal(l, x.want) || e != x.e {
			t.Errorf("%s: Better = %v, %d, want %v, %d", x.name, l, e, x.want, x.e)
		}
	}
}

// withSpare returns a copy of a list with an element behind its end, which must not be written to either.
func withSpare(numbers []int) []int { return append(slices.Clone(numbers), -7)[:len(numbers)] }

// overwrite writes to all memory of a list, also behind its end.
func overwrite[T any](elements []T, with T) {
	elements = elements[:cap(elements)]
	for i := range elements {
		elements[i] = with
	}
}

// R4: arguments stay as they were, and results share no memory with them or with one another.
func TestOwnMemory(t *testing.T) {
	values, owners, order := lists(withSpare(cross()[0]), withSpare(cross()[1])), withSpare(list(1, 0, 0)), withSpare(list(0, 1))
	other := withSpare(list(0, 1, 1))
	for range 2 {
		turns, _ := share.Turns(values, order)
		rings, _ := share.Rings(values)
		free, _ := share.Free(values)
		most, _ := share.Most(values)
		better, _ := share.Better(values, other)
		for _, l := range lists(turns, rings, free, most, better) {
			if !slices.Equal(l, list(1, 0, 0)) {
				t.Fatalf("%v after other results were overwritten, want 1 0 0", l)
			}
			overwrite(l, -99)
		}
		worth, _ := share.Worth(values, owners)
		if !sameLists(worth, lists(list(7, 1), list(3, 5))) {
			t.Fatalf("Worth = %v", worth)
		}
		overwrite(worth[0], -99)
		if !slices.Equal(worth[1], list(3, 5)) {
			t.Fatalf("Worth = %v after its first list was overwritten", worth)
		}
		overwrite(worth[1], -99)
		overwrite(worth, nil)
		envy, _ := share.Envy(values, other)
		if !slices.Equal(envy, pairs([2]int{0, 1}, [2]int{1, 0})) {
			t.Fatalf("Envy = %v", envy)
		}
		overwrite(envy, [2]int{-99, -99})
		for _, c := range append(calls(values, owners, order, 0, 1), calls(values, other, order, 0, 1)...) {
			c.run()
		}
		share.Check(values)
	}
	for _, x := range []struct{ got, want []int }{
		{values[0], list(1, 5, 2, -7)}, {values[1], list(5, 1, 2, -7)}, {owners, list(1, 0, 0, -7)}, {other, list(0, 1, 1, -7)}, {order, list(0, 1, -7)},
	} {
		if !slices.Equal(x.got[:len(x.want)], x.want) {
			t.Errorf("an argument was changed: %v, want %v", x.got[:len(x.want)], x.want)
		}
	}
}

// answers calls all functions and returns all numbers that they return.
func answers(values [][]int, owners, order []int, one, other int) []int {
	all := list(int(share.Check(values)), int(share.Proves(values, owners, one, other)))
	add := func(numbers []int, e api.Errno) { all = append(append(append(all, len(numbers)), numbers...), int(e)) }
	worth, e := share.Worth(values, owners)
	add(slices.Concat(worth...), e)
	envy, e := share.Envy(values, owners)
	for _, pair := range envy {
		add(pair[:], e)
	}
	n, f := share.Fair(values, owners)
	a, b, g := share.Why(values, owners)
	add(list(n, int(f), a, b, int(g)), e)
	add(share.Turns(values, order))
	add(share.Rings(values))
	add(share.Free(values))
	count, e := share.Count(values)
	add(list(count), e)
	add(share.Most(values))
	add(share.Better(values, owners))
	return all
}

// P1: every function returns for all arguments, and the same for equal ones; R3: nil is a list without elements.
func TestAllArguments(t *testing.T) {
	some := [][][]int{nil, {}, {nil}, {nil, nil, nil, nil}, make([][]int, 5), {{0}}, {{-1}}, {{21}}, {{math.MaxInt}, {math.MinInt}}, two(), poor(),
		cross(), {{1, 2}, {3}}, {{3, 4, 5}, {5, 4, 3}, {4, 4, 4}}, worthless(4, 6), worthless(5, 7), worthless(1, 1000),
		{{6, 4, 3, 9, 2, 7}, {5, 5, 1, 8, 8, 3}, {6, 5, 5, 9, 3, 3}, {1, 20, 3, 4, 5, 6}}}
	numbers := [][]int{nil, {0}, {-1}, {0, 1}, {1, 0}, {1, 1}, {0, 1, 0}, {0, 2, 1}, {3, 2, 1, 0}, {0, 1, 2, 3, 2, 1}, {0, 1, 2, 3, 4, 5},
		{math.MaxInt, math.MinInt}, make([]int, 7), make([]int, 1000)}
	ends := [][2]int{{0, 1}, {1, 0}, {2, 3}, {0, 0}, {-1, 4}, {math.MinInt, math.MaxInt}}
	for _, values := range some {
		for i, owners := range numbers {
			order, pair := numbers[(i+3)%len(numbers)], ends[i%len(ends)]
			for _, order := range lists(order, owners) {
				got := answers(values, owners, order, pair[0], pair[1])
				again := answers(slices.Clone(values), slices.Clone(owners), slices.Clone(order), pair[0], pair[1])
				if !slices.Equal(got, again) {
					t.Fatalf("%v, %v, %v, %v: %v, then %v", values, owners, order, pair, got, again)
				}
			}
		}
		if got, want := answers(values, nil, nil, 0, 1), answers(values, list(), list(), 0, 1); !slices.Equal(got, want) {
			t.Errorf("%v: %v with nil, %v with lists without elements", values, got, want)
		}
	}
	if got, want := answers(lists(nil, nil), nil, list(0, 1), 0, 1), answers(lists(list(), list()), list(), list(0, 1), 0, 1); !slices.Equal(got, want) {
		t.Errorf("%v with nil, %v with lists without things", got, want)
	}
}
