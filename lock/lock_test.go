package lock_test

import (
	"math"
	"slices"
	"strings"
	"testing"

	"bellarmine/api"
	"bellarmine/lock"
)

func list(numbers ...int) []int { return numbers }

func pairs(all ...[2]int) [][2]int { return all }

// upTo returns the ascending order of n barges.
func upTo(n int) []int {
	numbers := []int{}
	for number := range n {
		numbers = append(numbers, number)
	}
	return numbers
}

type badOrder struct {
	name  string
	order []int
	want  api.Errno
}

func allBadOrders() []badOrder {
	return []badOrder{
		{"no barges", nil, api.ErrRange},
		{"no barges, but a list", list(), api.ErrRange},
		{"eight barges", upTo(8), api.ErrRange},
		{"eight barges of one number", make([]int, 8), api.ErrRange},
		{"eight barges below 0", slices.Repeat(list(-1), 8), api.ErrRange},
		{"very many barges", make([]int, 100000), api.ErrRange},
		{"1 alone", list(1), api.ErrNone},
		{"-1 alone", list(-1), api.ErrNone},
		{"the greatest number alone", list(math.MaxInt), api.ErrNone},
		{"the smallest number alone", list(math.MinInt), api.ErrNone},
		{"a barge too great", list(0, 2), api.ErrNone},
		{"barges numbered from 1", list(2, 3, 1), api.ErrNone},
		{"a barge below 0", list(0, -1, 1), api.ErrNone},
		{"the last of seven too great", list(0, 1, 2, 3, 4, 5, 7), api.ErrNone},
		{"the greatest number behind others", list(1, 0, math.MaxInt), api.ErrNone},
		{"the smallest number behind others", list(1, 0, math.MinInt), api.ErrNone},
		{"too great before one that is there twice", list(0, 5, 0), api.ErrNone},
		{"too great twice", list(3, 3, 0), api.ErrNone},
		{"below 0 twice", list(-1, -1), api.ErrNone},
		{"0 twice", list(0, 0), api.ErrTwice},
		{"1 twice", list(1, 1), api.ErrTwice},
		{"the first one again at the end", list(2, 0, 1, 2), api.ErrTwice},
		{"the last of seven again", list(6, 5, 4, 3, 2, 1, 1), api.ErrTwice},
		{"seven times 0", make([]int, 7), api.ErrTwice},
		{"twice before one too great", list(0, 0, 5), api.ErrTwice},
		{"twice before one below 0", list(1, 1, -1), api.ErrTwice},
	}
}

// P11.1: Check.
func TestCheck(t *testing.T) {
	for _, good := range [][]int{list(0), list(0, 1), list(1, 0), list(1, 2, 0), list(2, 0, 1), list(3, 1, 0, 2), upTo(7), list(6, 5, 4, 3, 2, 1, 0)} {
		if e := lock.Check(good); e != api.OK {
			t.Errorf("Check(%v) = %d, want OK", good, e)
		}
	}
	for _, bad := range allBadOrders() {
		if e := lock.Check(bad.order); e != bad.want {
			t.Errorf("%s: Check = %d, want %d", bad.name, e, bad.want)
		}
	}
}

// question is what functions are asked besides an order.
type question struct {
	moves   string
	i, j, k int
}

func someQuestions() []question {
	return []question{
		{},
		{"io", 0, 1, 2},
		{"iioo", 0, 0, 0},
		{"o", 2, 1, 0},
		{"x", -1, -1, -1},
		{"ii", 7, 8, 9},
		{"iiiooo", 0, 1, 3},
		{"\x00\xff\xfe", math.MinInt, 0, math.MaxInt},
		{"ïö", math.MaxInt, math.MaxInt, math.MaxInt},
		{strings.Repeat("io", 100000), 1, 2, 3},
		{strings.Repeat("i", 100000), 4, 5, 6},
	}
}

// call is a call of a function: whether it returned nothing besides its error, and this error.
type call struct {
	name string
	run  func() (bool, api.Errno)
}

// calls are the calls of all functions of an order but Check.
func calls(order []int, q question) []call {
	listed := func(l []int, e api.Errno) (bool, api.Errno) { return len(l) == 0, e }
	moved := func(moves string, e api.Errno) (bool, api.Errno) { return moves == "", e }
	return []call{
		{"Pass", func() (bool, api.Errno) { return listed(lock.Pass(order)) }},
		{"Moves", func() (bool, api.Errno) { return moved(lock.Moves(order)) }},
		{"Run", func() (bool, api.Errno) { return listed(lock.Run(order, q.moves)) }},
		{"Sorted", func() (bool, api.Errno) { is, e := lock.Sorted(order); return !is, e }},
		{"Why", func() (bool, api.Errno) { i, j, k, e := lock.Why(order); return i == 0 && j == 0 && k == 0, e }},
		{"Proves", func() (bool, api.Errno) { return true, lock.Proves(order, q.i, q.j, q.k) }},
		{"Passes", func() (bool, api.Errno) { n, e := lock.Passes(order); return n == 0, e }},
		{"Leaves", func() (bool, api.Errno) { return moved(lock.Leaves(order)) }},
		{"Clash", func() (bool, api.Errno) { l, e := lock.Clash(order); return len(l) == 0, e }},
		{"Two", func() (bool, api.Errno) { return listed(lock.Two(order)) }},
	}
}

// P11.1: the error of the order comes before all others; R2: nothing besides it.
func TestBadOrdersFirst(t *testing.T) {
	for _, bad := range allBadOrders() {
		for _, q := range someQuestions() {
			for _, c := range calls(bad.order, q) {
				if zero, e := c.run(); !zero || e != bad.want {
					t.Errorf("%s: %s returns error %d, zero value %t, want %d", bad.name, c.name, e, zero, bad.want)
				}
			}
		}
	}
}

// known is an order, and what is known of it. It is not Sorted if three places bar it.
type known struct {
	order, pass []int
	moves       string
	passes      int
	why         []int
	// leaves is empty if the order cannot leave, and two if two basins are not enough.
	leaves string
	clash  [][2]int
	two    []int
}

func allKnown() []known {
	return []known{
		{list(0), list(0), "io", 0, nil, "io", nil, list(0)},
		{list(0, 1), list(0, 1), "ioio", 0, nil, "ioio", nil, list(0, 0)},
		{list(1, 0), list(0, 1), "iioo", 1, nil, "iioo", nil, list(0, 0)},
		{list(0, 1, 2), list(0, 1, 2), "ioioio", 0, nil, "ioioio", nil, list(0, 0, 0)},
		{list(0, 2, 1), list(0, 1, 2), "ioiioo", 1, nil, "ioiioo", nil, list(0, 0, 0)},
		{list(1, 0, 2), list(0, 1, 2), "iiooio", 1, nil, "iiooio", nil, list(0, 0, 0)},
		{list(1, 2, 0), list(1, 0, 2), "ioiioo", 2, list(0, 1, 2), "iioioo", pairs([2]int{1, 2}), list(0, 1, 0)},
		{list(2, 0, 1), list(0, 1, 2), "iioioo", 1, nil, "", nil, list(0, 0, 0)},
		{list(2, 1, 0), list(0, 1, 2), "iiiooo", 1, nil, "iiiooo", nil, list(0, 0, 0)},
		{list(1, 2, 3, 0), list(1, 2, 0, 3), "ioioiioo", 3, list(0, 1, 3), "iioioioo", pairs([2]int{1, 2}, [2]int{1, 3}, [2]int{2, 3}), nil},
		{list(3, 0, 2, 1), list(0, 1, 2, 3), "iioiiooo", 1, nil, "", nil, list(0, 0, 0, 0)},
		{list(0, 2, 3, 1), list(0, 2, 1, 3), "ioioiioo", 2, list(1, 2, 3), "ioiioioo", pairs([2]int{2, 3}), list(0, 0, 1, 0)},
		{list(1, 3, 0, 2), list(1, 0, 2, 3), "ioiioioo", 2, list(0, 1, 2), "", pairs([2]int{1, 3}), list(0, 1, 0, 0)},
		{list(2, 3, 0, 1), list(2, 0, 1, 3), "ioiioioo", 2, list(0, 1, 2), "", pairs([2]int{2, 3}), list(0, 1, 0, 0)},
		{list(2, 1, 3, 0), list(1, 2, 0, 3), "iiooiioo", 3, list(0, 2, 3), "iiiooioo", pairs([2]int{1, 3}, [2]int{2, 3}), list(0, 0, 1, 0)},
		{list(2, 4, 1, 3, 0), list(2, 1, 0, 3, 4), "ioiioiiooo", 2, list(0, 1, 2), "", pairs([2]int{1, 3}, [2]int{2, 3}, [2]int{2, 4}), list(0, 1, 0, 1, 0)},
		{list(1, 2, 3, 4, 5, 6, 0), list(1, 2, 3, 4, 5, 0, 6), "ioioioioioiioo", 6, list(0, 1, 6), "iioioioioioioo",
			pairs([2]int{1, 2}, [2]int{1, 3}, [2]int{1, 4}, [2]int{1, 5}, [2]int{1, 6}, [2]int{2, 3}, [2]int{2, 4}, [2]int{2, 5}, [2]int{2, 6},
				[2]int{3, 4}, [2]int{3, 5}, [2]int{3, 6}, [2]int{4, 5}, [2]int{4, 6}, [2]int{5, 6}), nil},
		{list(6, 5, 4, 3, 2, 1, 0), upTo(7), "iiiiiiiooooooo", 1, nil, "iiiiiiiooooooo", nil, make([]int, 7)},
		{list(0, 1, 2, 3, 4, 5, 6), upTo(7), "ioioioioioioio", 0, nil, "ioioioioioioio", nil, make([]int, 7)},
		{list(6, 0, 5, 1, 4, 2, 3), upTo(7), "iioiioiioioooo", 1, nil, "", nil, make([]int, 7)},
	}
}

// P11.2: Pass and Moves; P11.4: Passes.
func TestPass(t *testing.T) {
	for _, x := range allKnown() {
		if l, e := lock.Pass(x.order); !slices.Equal(l, x.pass) || e != api.OK {
			t.Errorf("Pass(%v) = %v, %d, want %v", x.order, l, e, x.pass)
		}
		if moves, e := lock.Moves(x.order); moves != x.moves || e != api.OK {
			t.Errorf("Moves(%v) = %q, %d, want %q", x.order, moves, e, x.moves)
		}
		if n, e := lock.Passes(x.order); n != x.passes || e != api.OK {
			t.Errorf("Passes(%v) = %d, %d, want %d", x.order, n, e, x.passes)
		}
	}
}

// P11.2: Run; R2: nothing besides an error.
func TestRun(t *testing.T) {
	for _, x := range []struct {
		order []int
		moves string
		want  []int
		e     api.Errno
	}{
		{list(0), "io", list(0), api.OK},
		{list(2, 0, 1), "iioioo", list(0, 1, 2), api.OK},
		{list(2, 0, 1), "iiiooo", list(1, 0, 2), api.OK},
		{list(2, 0, 1), "ioioio", list(2, 0, 1), api.OK},
		{list(2, 0, 1), "iiooio", list(0, 2, 1), api.OK},
		{list(2, 0, 1), "ioiioo", list(2, 1, 0), api.OK},
		{list(6, 5, 4, 3, 2, 1, 0), "iiiiiiiooooooo", upTo(7), api.OK},
		{list(6, 5, 4, 3, 2, 1, 0), "ioiioiiiooiooo", list(6, 4, 1, 2, 0, 3, 5), api.OK},
		{list(2, 0, 1), "", nil, api.ErrOpen},
		{list(0), "", nil, api.ErrOpen},
		{list(0), "i", nil, api.ErrOpen},
		{list(2, 0, 1), "ii", nil, api.ErrOpen},
		{list(2, 0, 1), "iioo", nil, api.ErrOpen},
		{list(2, 0, 1), "iiioo", nil, api.ErrOpen},
		{list(2, 0, 1), "iii", nil, api.ErrOpen},
		{list(2, 0, 1), "iiiooo" + "i", nil, api.ErrNone},
		{list(2, 0, 1), "iiii", nil, api.ErrNone},
		{list(2, 0, 1), "iiiix", nil, api.ErrNone},
		{list(2, 0, 1), "ioioioio", nil, api.ErrNone},
		{list(0), strings.Repeat("i", 100000), nil, api.ErrNone},
		{upTo(7), "ioioioioioioioi", nil, api.ErrNone},
		{list(2, 0, 1), "o", nil, api.ErrEmpty},
		{list(2, 0, 1), "ox", nil, api.ErrEmpty},
		{list(2, 0, 1), "ioo", nil, api.ErrEmpty},
		{list(2, 0, 1), "iooiiii", nil, api.ErrEmpty},
		{list(2, 0, 1), "iiioooo", nil, api.ErrEmpty},
		{list(0), strings.Repeat("o", 100000), nil, api.ErrEmpty},
		{list(2, 0, 1), "x", nil, api.ErrForm},
		{list(2, 0, 1), "xo", nil, api.ErrForm},
		{list(2, 0, 1), "ix", nil, api.ErrForm},
		{list(2, 0, 1), "iI", nil, api.ErrForm},
		{list(2, 0, 1), "iO", nil, api.ErrForm},
		{list(2, 0, 1), "i0", nil, api.ErrForm},
		{list(2, 0, 1), "i o", nil, api.ErrForm},
		{list(2, 0, 1), "iiiooo\n", nil, api.ErrForm},
		{list(2, 0, 1), "iiiooox", nil, api.ErrForm},
		{list(2, 0, 1), "ixiiii", nil, api.ErrForm},
		{list(2, 0, 1), "\x00", nil, api.ErrForm},
		{list(2, 0, 1), "\xff", nil, api.ErrForm},
		{list(2, 0, 1), "ı", nil, api.ErrForm},
		{list(2, 0, 1), "ũ", nil, api.ErrForm},
		{list(2, 0, 1), "ioxo", nil, api.ErrForm},
	} {
		if l, e := lock.Run(x.order, x.moves); !slices.Equal(l, x.want) || e != x.e {
			t.Errorf("Run(%v, %.20q) = %v, %d, want %v, %d", x.order, x.moves, l, e, x.want, x.e)
		}
	}
}

// P11.3: Sorted and Why; R2: nothing besides an error.
func TestSorted(t *testing.T) {
	for _, x := range allKnown() {
		want, e := append(list(), x.why...), api.OK
		if len(x.why) == 0 {
			want, e = list(0, 0, 0), api.ErrClash
		}
		if is, f := lock.Sorted(x.order); is != (len(x.why) == 0) || f != api.OK {
			t.Errorf("Sorted(%v) = %t, %d, want %t", x.order, is, f, len(x.why) == 0)
		}
		if i, j, k, f := lock.Why(x.order); !slices.Equal(list(i, j, k), want) || f != e {
			t.Errorf("Why(%v) = %d, %d, %d, %d, want %v, %d", x.order, i, j, k, f, want, e)
		}
	}
}

// P11.3: Proves.
func TestProves(t *testing.T) {
	for _, x := range []struct {
		order   []int
		i, j, k int
		want    api.Errno
	}{
		{list(1, 2, 0), 0, 1, 2, api.OK},
		{list(1, 2, 3, 0), 0, 1, 3, api.OK},
		{list(1, 2, 3, 0), 0, 2, 3, api.OK},
		{list(1, 2, 3, 0), 1, 2, 3, api.OK},
		{list(6, 2, 4, 1, 5, 3, 0), 1, 4, 6, api.OK},
		{list(1, 2, 3, 4, 5, 6, 0), 4, 5, 6, api.OK},
		{list(1, 2, 0), 0, 2, 1, api.ErrOrder},
		{list(1, 2, 0), 1, 0, 2, api.ErrOrder},
		{list(1, 2, 0), 2, 1, 0, api.ErrOrder},
		{list(1, 2, 0), 0, 0, 2, api.ErrOrder},
		{list(1, 2, 0), 0, 2, 2, api.ErrOrder},
		{list(1, 2, 0), 1, 1, 1, api.ErrOrder},
		{list(0), 0, 0, 0, api.ErrOrder},
		{list(2, 0, 1), 2, 0, 1, api.ErrOrder},
		{list(1, 2, 0), 0, 1, 3, api.ErrNone},
		{list(1, 2, 0), -1, 1, 2, api.ErrNone},
		{list(1, 2, 0), 0, -1, 2, api.ErrNone},
		{list(1, 2, 0), 0, 3, 2, api.ErrNone},
		{list(1, 2, 0), 0, 1, -1, api.ErrNone},
		{list(1, 2, 0), 3, 1, 2, api.ErrNone},
		{list(1, 2, 0), 2, 1, 3, api.ErrNone},
		{list(1, 2, 0), 2, 1, math.MaxInt, api.ErrNone},
		{list(1, 2, 0), math.MinInt, 1, 2, api.ErrNone},
		{list(0), 0, 1, 2, api.ErrNone},
		{upTo(7), 5, 6, 7, api.ErrNone},
		{list(0, 1, 2), 0, 1, 2, api.ErrProof},
		{list(0, 2, 1), 0, 1, 2, api.ErrProof},
		{list(1, 0, 2), 0, 1, 2, api.ErrProof},
		{list(2, 0, 1), 0, 1, 2, api.ErrProof},
		{list(2, 1, 0), 0, 1, 2, api.ErrProof},
		{list(1, 2, 3, 0), 0, 1, 2, api.ErrProof},
		{list(1, 3, 2, 0), 1, 2, 3, api.ErrProof},
	} {
		if e := lock.Proves(x.order, x.i, x.j, x.k); e != x.want {
			t.Errorf("Proves(%v, %d, %d, %d) = %d, want %d", x.order, x.i, x.j, x.k, e, x.want)
		}
	}
}

// P11.4: Count; R2: nothing besides an error.
func TestCount(t *testing.T) {
	for _, x := range []struct{ barges, passes, want int }{
		{1, 0, 1}, {1, 1, 1}, {2, 0, 1}, {2, 1, 2}, {2, 2, 2}, {3, 0, 1}, {3, 1, 5}, {3, 2, 6}, {3, 3, 6}, {4, 0, 1}, {4, 1, 14}, {4, 2, 22}, {4, 3, 24},
		{4, 4, 24}, {5, 0, 1}, {5, 1, 42}, {5, 2, 91}, {5, 3, 114}, {5, 4, 120}, {6, 2, 408}, {6, 5, 720}, {7, 0, 1}, {7, 1, 429}, {7, 2, 1938}, {7, 6, 5040},
		{7, 7, 5040}, {1, math.MaxInt, 1}, {4, math.MaxInt, 24}, {7, math.MaxInt, 5040},
	} {
		if n, e := lock.Count(x.barges, x.passes); n != x.want || e != api.OK {
			t.Errorf("Count(%d, %d) = %d, %d, want %d", x.barges, x.passes, n, e, x.want)
		}
	}
	for _, x := range [][2]int{
		{0, 1}, {0, 0}, {8, 1}, {8, 0}, {-1, 1}, {3, -1}, {1, -1}, {7, -1}, {0, -1}, {8, -1}, {math.MaxInt, 1}, {math.MinInt, 1}, {3, math.MinInt},
		{math.MaxInt, math.MaxInt}, {math.MinInt, math.MinInt},
	} {
		if n, e := lock.Count(x[0], x[1]); n != 0 || e != api.ErrRange {
			t.Errorf("Count(%d, %d) = %d, %d, want ErrRange", x[0], x[1], n, e)
		}
	}
}

// P11.5; R2: nothing besides an error.
func TestLeaves(t *testing.T) {
	for _, x := range allKnown() {
		want := api.OK
		if x.leaves == "" {
			want = api.ErrLost
		}
		if moves, e := lock.Leaves(x.order); moves != x.leaves || e != want {
			t.Errorf("Leaves(%v) = %q, %d, want %q, %d", x.order, moves, e, x.leaves, want)
		}
	}
}

// P11.6: Clash and Two; R2: nothing besides an error.
func TestTwo(t *testing.T) {
	more := []known{
		{order: list(3, 4, 2, 1, 0), clash: pairs([2]int{3, 4}), two: list(0, 1, 0, 0, 0)},
		{order: list(1, 3, 0, 4, 2), clash: pairs([2]int{1, 3}, [2]int{3, 4}), two: list(0, 1, 0, 0, 0)},
		{order: list(2, 3, 1, 4, 0), clash: pairs([2]int{1, 4}, [2]int{2, 3}, [2]int{2, 4}, [2]int{3, 4}), two: nil},
		{order: list(3, 1, 2, 0, 4), clash: pairs([2]int{1, 2}), two: list(0, 0, 1, 0, 0)},
		{order: list(1, 5, 0, 3, 6, 2, 4), clash: pairs([2]int{1, 5}, [2]int{3, 6}, [2]int{5, 6}), two: list(0, 1, 0, 1, 0, 0, 0)},
		{order: list(3, 1, 4, 0, 6, 2, 5), clash: pairs([2]int{1, 4}, [2]int{3, 4}, [2]int{3, 6}, [2]int{4, 6}), two: nil},
		// No three of these clash with one another, but five of them clash in a ring.
		{order: list(4, 1, 6, 3, 0, 5, 2), clash: pairs([2]int{1, 3}, [2]int{1, 6}, [2]int{3, 5}, [2]int{4, 5}, [2]int{4, 6}), two: nil},
	}
	for _, x := range append(allKnown(), more...) {
		if l, e := lock.Clash(x.order); !slices.Equal(l, x.clash) || e != api.OK {
			t.Errorf("Clash(%v) = %v, %d, want %v", x.order, l, e, x.clash)
		}
		want := api.OK
		if len(x.two) == 0 {
			want = api.ErrLost
		}
		if l, e := lock.Two(x.order); !slices.Equal(l, x.two) || e != want {
			t.Errorf("Two(%v) = %v, %d, want %v, %d", x.order, l, e, x.two, want)
		}
	}
}

// withSpare returns a copy of a list with an element behind its end, which must not be written to either.
func withSpare(numbers []int) []int { return append(slices.Clone(numbers), -7)[:len(numbers)] }

// overwrite writes to all memory of a list, also behind its end.
func overwrite[T any](l []T, other T) {
	l = l[:cap(l)]
	for i := range l {
		l[i] = other
	}
}

// listsTold returns what the functions return that return lists of numbers.
func listsTold(order []int, q question) [][]int {
	pass, _ := lock.Pass(order)
	left, _ := lock.Run(order, q.moves)
	two, _ := lock.Two(order)
	return [][]int{pass, left, two}
}

// R4: arguments stay as they were, and results share no memory with them or with one another.
func TestOwnMemory(t *testing.T) {
	q := question{"ioioioio", 0, 1, 2}
	for _, order := range [][]int{list(0, 1, 2, 3), list(3, 2, 1, 0), list(1, 2, 0, 3), list(2, 0, 3, 1)} {
		spare := withSpare(order)
		wantLists := listsTold(order, q)
		wantPairs, _ := lock.Clash(order)
		for range 2 {
			told, again := listsTold(spare, q), listsTold(spare, q)
			clash, _ := lock.Clash(spare)
			clashAgain, _ := lock.Clash(spare)
			for i, want := range wantLists {
				overwrite(told[i], -99)
				if !slices.Equal(again[i], want) {
					t.Fatalf("%v: %v after other results were overwritten, want %v", order, again[i], want)
				}
			}
			overwrite(clash, [2]int{-99, -99})
			if !slices.Equal(clashAgain, wantPairs) {
				t.Fatalf("%v: %v after other results were overwritten, want %v", order, clashAgain, wantPairs)
			}
			for _, c := range calls(spare, q) {
				c.run()
			}
			lock.Check(spare)
		}
		if all := append(slices.Clone(order), -7); !slices.Equal(spare[:len(all)], all) {
			t.Errorf("the order was changed: %v, want %v", spare[:len(all)], all)
		}
	}
}

// answers calls all functions and returns all that they return as numbers.
func answers(order []int, q question) []int {
	all := list(int(lock.Check(order)))
	for _, told := range listsTold(order, q) {
		all = append(append(all, len(told)), told...)
	}
	clash, _ := lock.Clash(order)
	for _, both := range clash {
		all = append(all, both[0], both[1])
	}
	moves, _ := lock.Moves(order)
	leaves, _ := lock.Leaves(order)
	for _, letter := range []byte(moves + leaves) {
		all = append(all, int(letter))
	}
	i, j, k, _ := lock.Why(order)
	passes, _ := lock.Passes(order)
	all = append(all, i, j, k, passes)
	for _, c := range calls(order, q) {
		zero, e := c.run()
		all = append(all, int(e))
		if zero {
			all = append(all, -1)
		}
	}
	return all
}

// P1: every function returns for all arguments, and the same for equal ones; R3: nil is a list without elements.
func TestAllArguments(t *testing.T) {
	var some [][]int
	for _, bad := range allBadOrders() {
		some = append(some, bad.order)
	}
	for _, x := range allKnown() {
		some = append(some, x.order)
	}
	for _, order := range some {
		for _, q := range someQuestions() {
			again := question{strings.Clone(q.moves), q.i, q.j, q.k}
			if got, want := answers(slices.Clone(order), again), answers(order, q); !slices.Equal(got, want) {
				t.Fatalf("%v, %v: %v, then %v", order, q, want, got)
			}
		}
	}
	if got, want := answers(nil, question{}), answers(list(), question{}); !slices.Equal(got, want) {
		t.Errorf("%v with nil, %v with a list without elements", got, want)
	}
	for _, x := range [][2]int{{0, 0}, {4, 2}, {7, 3}, {8, 8}, {-1, -1}, {math.MaxInt, math.MinInt}, {math.MinInt, math.MaxInt}} {
		one, e := lock.Count(x[0], x[1])
		if other, f := lock.Count(x[0], x[1]); one != other || e != f {
			t.Errorf("Count(%v) = %d, %d, then %d, %d", x, one, e, other, f)
		}
	}
}
