package post_test

import (
	"math"
	"slices"
	"testing"

	"bellarmine/api"
	"bellarmine/post"
)

func list(numbers ...int) []int { return numbers }

// upTo returns the numbers below n in ascending order.
func upTo(n int) []int {
	numbers := []int{}
	for number := range n {
		numbers = append(numbers, number)
	}
	return numbers
}

// row returns a shore of n places in a row.
func row(n int) []int {
	shore := list()
	for place := range n {
		shore = append(shore, place-1)
	}
	return shore
}

// star returns a shore of n places, all of them but place 0 behind it.
func star(n int) []int { return append(list(-1), make([]int, n-1)...) }

// legs is the shore C of the chapter's examples.
func legs() []int { return list(-1, 0, 1, 0, 3, 0, 5) }

type badShore struct {
	name  string
	shore []int
	want  api.Errno
}

func allBadShores() []badShore {
	return []badShore{
		{"no places", nil, api.ErrEmpty},
		{"no places, but a list", list(), api.ErrEmpty},
		{"eleven places", row(11), api.ErrMany},
		{"eleven places, the first one behind 0", make([]int, 11), api.ErrMany},
		{"eleven places behind no place", slices.Repeat(list(-1), 11), api.ErrMany},
		{"eleven places behind themselves", upTo(11), api.ErrMany},
		{"very many places", make([]int, 100000), api.ErrMany},
		{"0 behind itself", list(0), api.ErrNone},
		{"1 behind 0, which has no neighbour", list(1), api.ErrNone},
		{"-2 behind 0", list(-2), api.ErrNone},
		{"the greatest number behind 0", list(math.MaxInt), api.ErrNone},
		{"the smallest number behind 0", list(math.MinInt), api.ErrNone},
		{"0 and 1 behind each other", list(1, 0), api.ErrNone},
		{"0 behind 0, and 0 behind 1", list(0, 0), api.ErrNone},
		{"1 behind itself", list(-1, 1), api.ErrNone},
		{"nothing behind 1", list(-1, -1), api.ErrNone},
		{"nothing behind 2", list(-1, 0, -1), api.ErrNone},
		{"2 behind 1", list(-1, 2, 0), api.ErrNone},
		{"2 behind itself", list(-1, 0, 2), api.ErrNone},
		{"no place behind 2", list(-1, 0, 3), api.ErrNone},
		{"-2 behind 1", list(-1, -2), api.ErrNone},
		{"the greatest number behind 1", list(-1, math.MaxInt), api.ErrNone},
		{"the smallest number behind 2", list(-1, 0, math.MinInt), api.ErrNone},
		{"the last one of ten behind itself", list(-1, 0, 1, 2, 3, 4, 5, 6, 7, 9), api.ErrNone},
		{"nothing behind the last one of ten", list(-1, 0, 1, 2, 3, 4, 5, 6, 7, -1), api.ErrNone},
		{"0 behind the first one of ten", make([]int, 10), api.ErrNone},
	}
}

// P12.1: Check.
func TestCheck(t *testing.T) {
	for _, good := range [][]int{list(-1), list(-1, 0), list(-1, 0, 0), list(-1, 0, 1), legs(), row(10), star(10), list(-1, 0, 1, 1, 0, 4, 2, 3, 7, 8)} {
		if e := post.Check(good); e != api.OK {
			t.Errorf("Check(%v) = %d, want OK", good, e)
		}
	}
	for _, bad := range allBadShores() {
		if e := post.Check(bad.shore); e != bad.want {
			t.Errorf("%s: Check = %d, want %d", bad.name, e, bad.want)
		}
	}
}

// question is what functions are asked besides a shore.
type question struct {
	place   int
	numbers []int
	prices  []int
}

func someQuestions() []question {
	return []question{
		{0, nil, nil},
		{0, list(0), list(1)},
		{1, list(0, 1), list(1, 1)},
		{-1, list(-1), list(0)},
		{3, list(1, 0), list(1, 2, 3, 4, 5, 6)},
		{7, list(0, 1, 2, 3), list(1, 21, 0, 1)},
		{10, list(0, 2, 4, 6, 8), slices.Repeat(list(20), 10)},
		{11, upTo(11), slices.Repeat(list(5), 11)},
		{math.MaxInt, list(math.MaxInt), list(math.MaxInt)},
		{math.MinInt, list(math.MinInt, math.MaxInt), list(math.MinInt, math.MinInt)},
		{2, upTo(100000), make([]int, 100000)},
	}
}

// call is a call of a function: whether it returned nothing besides its error, and this error.
type call struct {
	name string
	run  func() (bool, api.Errno)
}

// calls are the calls of all functions but Check.
func calls(shore []int, q question) []call {
	listed := func(l []int, e api.Errno) (bool, api.Errno) { return len(l) == 0, e }
	counted := func(n int, e api.Errno) (bool, api.Errno) { return n == 0, e }
	return []call{
		{"Hand", func() (bool, api.Errno) { return listed(post.Hand(shore, q.place)) }},
		{"Guards", func() (bool, api.Errno) { return true, post.Guards(shore, q.numbers) }},
		{"Fewest", func() (bool, api.Errno) { return listed(post.Fewest(shore)) }},
		{"Apart", func() (bool, api.Errno) { return listed(post.Apart(shore)) }},
		{"Proves", func() (bool, api.Errno) { return true, post.Proves(shore, q.numbers) }},
		{"Count", func() (bool, api.Errno) { return counted(post.Count(shore)) }},
		{"Ways", func() (bool, api.Errno) { return counted(post.Ways(shore)) }},
		{"Always", func() (bool, api.Errno) { return listed(post.Always(shore)) }},
		{"Never", func() (bool, api.Errno) { return listed(post.Never(shore)) }},
		{"Cheapest", func() (bool, api.Errno) { return listed(post.Cheapest(shore, q.prices)) }},
	}
}

// P12.1: the error of the shore comes before all others; R2: nothing besides it.
func TestBadShoresFirst(t *testing.T) {
	for _, bad := range allBadShores() {
		for _, q := range someQuestions() {
			for _, c := range calls(bad.shore, q) {
				if zero, e := c.run(); !zero || e != bad.want {
					t.Errorf("%s: %s returns error %d, zero value %t, want %d", bad.name, c.name, e, zero, bad.want)
				}
			}
		}
	}
}

// P12.1: Hand; R2: nothing besides an error.
func TestHand(t *testing.T) {
	for _, x := range []struct {
		shore []int
		place int
		want  []int
		e     api.Errno
	}{
		{legs(), 0, list(0, 1, 3, 5), api.OK},
		{legs(), 3, list(0, 3, 4), api.OK},
		{legs(), 4, list(3, 4), api.OK},
		{legs(), 6, list(5, 6), api.OK},
		{list(-1), 0, list(0), api.OK},
		{list(-1, 0), 0, list(0, 1), api.OK},
		{list(-1, 0), 1, list(0, 1), api.OK},
		{row(10), 0, list(0, 1), api.OK},
		{row(10), 5, list(4, 5, 6), api.OK},
		{row(10), 9, list(8, 9), api.OK},
		{star(10), 0, upTo(10), api.OK},
		{star(10), 9, list(0, 9), api.OK},
		{list(-1, 0, 0, 2, 1, 2, 2), 2, list(0, 2, 3, 5, 6), api.OK},
		{legs(), 7, nil, api.ErrNone},
		{legs(), -1, nil, api.ErrNone},
		{list(-1), 1, nil, api.ErrNone},
		{row(10), 10, nil, api.ErrNone},
		{row(10), math.MaxInt, nil, api.ErrNone},
		{row(10), math.MinInt, nil, api.ErrNone},
	} {
		if l, e := post.Hand(x.shore, x.place); !slices.Equal(l, x.want) || e != x.e {
			t.Errorf("Hand(%v, %d) = %v, %d, want %v, %d", x.shore, x.place, l, e, x.want, x.e)
		}
	}
}

// P12.2: Guards and Proves.
func TestGuards(t *testing.T) {
	for _, x := range []struct {
		shore, numbers []int
		guards, proves api.Errno
	}{
		{row(6), list(1, 4), api.OK, api.OK},
		{row(6), list(0, 3), api.ErrProof, api.OK},
		{row(6), list(1, 2, 4), api.OK, api.ErrProof},
		{row(6), list(1, 3), api.ErrProof, api.ErrProof},
		{row(6), list(0, 5), api.ErrProof, api.OK},
		{row(6), list(0, 2, 5), api.OK, api.ErrProof},
		{row(6), upTo(6), api.OK, api.ErrProof},
		{row(6), nil, api.ErrProof, api.OK},
		{row(6), list(), api.ErrProof, api.OK},
		{row(10), list(0, 3, 6, 9), api.OK, api.OK},
		{row(10), list(1, 4, 7), api.ErrProof, api.OK},
		{star(10), list(0), api.OK, api.OK},
		{star(10), list(1), api.ErrProof, api.OK},
		{star(10), list(1, 9), api.ErrProof, api.ErrProof},
		{star(10), list(1, 2, 3, 4, 5, 6, 7, 8, 9), api.OK, api.ErrProof},
		{list(-1), list(0), api.OK, api.OK},
		{list(-1), nil, api.ErrProof, api.OK},
		{legs(), list(1, 3, 5), api.OK, api.ErrProof},
		{legs(), list(1, 4, 6), api.OK, api.OK},
		{legs(), list(2, 4, 6), api.ErrProof, api.OK},
		{legs(), list(1, 3), api.ErrProof, api.ErrProof},
		{row(6), list(6), api.ErrNone, api.ErrNone},
		{row(6), list(-1), api.ErrNone, api.ErrNone},
		{row(6), list(1, 4, 6), api.ErrNone, api.ErrNone},
		{row(6), list(1, -1), api.ErrNone, api.ErrNone},
		{row(6), list(math.MinInt), api.ErrNone, api.ErrNone},
		{row(6), list(1, math.MaxInt), api.ErrNone, api.ErrNone},
		{row(6), list(6, 1, 1), api.ErrNone, api.ErrNone},
		{row(6), list(6, 6), api.ErrNone, api.ErrNone},
		{row(6), list(-1, -1), api.ErrNone, api.ErrNone},
		{row(6), list(4, 1), api.ErrOrder, api.ErrOrder},
		{row(6), list(1, 1), api.ErrOrder, api.ErrOrder},
		{row(6), list(1, 4, 4), api.ErrOrder, api.ErrOrder},
		{row(6), list(1, 4, 0), api.ErrOrder, api.ErrOrder},
		{row(6), list(3, 2, -1), api.ErrOrder, api.ErrOrder},
		{row(6), list(3, 3, 6), api.ErrOrder, api.ErrOrder},
		{row(6), make([]int, 100000), api.ErrOrder, api.ErrOrder},
		{row(6), upTo(100000), api.ErrNone, api.ErrNone},
	} {
		if e := post.Guards(x.shore, x.numbers); e != x.guards {
			t.Errorf("Guards(%v, %.10v) = %d, want %d", x.shore, x.numbers, e, x.guards)
		}
		if e := post.Proves(x.shore, x.numbers); e != x.proves {
			t.Errorf("Proves(%v, %.10v) = %d, want %d", x.shore, x.numbers, e, x.proves)
		}
	}
}

// known is a shore, and what is known of it.
type known struct {
	shore, fewest, apart []int
	count, ways          int
	always, never        []int
}

func allKnown() []known {
	return []known{
		{list(-1), list(0), list(0), 1, 1, list(0), nil},
		{list(-1, 0), list(0), list(0), 3, 2, nil, nil},
		{row(3), list(1), list(0), 5, 1, list(1), list(0, 2)},
		{star(3), list(0), list(0), 5, 1, list(0), list(1, 2)},
		{star(4), list(0), list(0), 9, 1, list(0), list(1, 2, 3)},
		{row(4), list(0, 2), list(0, 3), 9, 4, nil, nil},
		{list(-1, 0, 0, 1), list(0, 1), list(2, 3), 9, 4, nil, nil},
		{row(5), list(0, 3), list(0, 3), 17, 3, nil, list(2)},
		{row(6), list(1, 4), list(0, 3), 31, 1, list(1, 4), list(0, 2, 3, 5)},
		{legs(), list(1, 3, 5), list(1, 4, 6), 53, 7, nil, list(0)},
		// Each of two middles, 1 and 2, has two ends.
		{list(-1, 0, 0, 1, 1, 2, 2), list(1, 2), list(1, 5), 49, 1, list(1, 2), list(0, 3, 4, 5, 6)},
		{row(9), list(1, 4, 7), list(0, 3, 6), 193, 1, list(1, 4, 7), list(0, 2, 3, 5, 6, 8)},
		{row(10), list(0, 2, 5, 8), list(0, 3, 6, 9), 355, 13, nil, nil},
		// Of 9 ends all have a post, or the middle has one: 1 + 2^9.
		{star(10), list(0), list(0), 513, 1, list(0), upTo(10)[1:]},
		// A place in a row of five, each with an end: one of both has a post, 2^5, or both, 3^5 in all.
		{list(-1, 0, 1, 2, 3, 0, 1, 2, 3, 4), upTo(5), list(5, 6, 7, 8, 9), 243, 32, nil, nil},
	}
}

// P12.3: Fewest and Apart; P12.4: Count and Ways; P12.5: Always and Never.
func TestKnown(t *testing.T) {
	for _, x := range allKnown() {
		if l, e := post.Fewest(x.shore); !slices.Equal(l, x.fewest) || e != api.OK {
			t.Errorf("Fewest(%v) = %v, %d, want %v", x.shore, l, e, x.fewest)
		}
		if l, e := post.Apart(x.shore); !slices.Equal(l, x.apart) || e != api.OK {
			t.Errorf("Apart(%v) = %v, %d, want %v", x.shore, l, e, x.apart)
		}
		if n, e := post.Count(x.shore); n != x.count || e != api.OK {
			t.Errorf("Count(%v) = %d, %d, want %d", x.shore, n, e, x.count)
		}
		if n, e := post.Ways(x.shore); n != x.ways || e != api.OK {
			t.Errorf("Ways(%v) = %d, %d, want %d", x.shore, n, e, x.ways)
		}
		if l, e := post.Always(x.shore); !slices.Equal(l, x.always) || e != api.OK {
			t.Errorf("Always(%v) = %v, %d, want %v", x.shore, l, e, x.always)
		}
		if l, e := post.Never(x.shore); !slices.Equal(l, x.never) || e != api.OK {
			t.Errorf("Never(%v) = %v, %d, want %v", x.shore, l, e, x.never)
		}
	}
}

// P12.6: Cheapest; R2: nothing besides an error.
func TestCheapest(t *testing.T) {
	for _, x := range []struct {
		shore, prices, want []int
		e                   api.Errno
	}{
		{star(4), list(9, 1, 1, 1), list(1, 2, 3), api.OK},
		{star(4), list(4, 1, 1, 1), list(1, 2, 3), api.OK},
		{star(4), list(3, 1, 1, 1), list(0), api.OK},
		{star(4), list(20, 20, 20, 20), list(0), api.OK},
		{list(-1), list(1), list(0), api.OK},
		{list(-1), list(20), list(0), api.OK},
		{list(-1, 0), list(2, 1), list(1), api.OK},
		{list(-1, 0), list(1, 1), list(0), api.OK},
		{row(6), list(1, 1, 1, 1, 1, 1), list(1, 4), api.OK},
		{row(6), list(1, 9, 1, 1, 9, 1), list(0, 2, 5), api.OK},
		{row(6), list(2, 4, 2, 2, 4, 2), list(0, 2, 5), api.OK},
		{row(6), list(2, 3, 2, 2, 3, 2), list(0, 2, 5), api.OK},
		{row(6), list(2, 3, 2, 3, 3, 3), list(1, 4), api.OK},
		{star(10), list(20, 3, 3, 3, 3, 2, 2, 2, 2, 1), list(0), api.OK},
		{star(10), list(20, 3, 3, 2, 2, 2, 2, 2, 2, 2), list(0), api.OK},
		{star(10), list(19, 3, 2, 2, 2, 2, 2, 2, 2, 2), list(0), api.OK},
		{star(10), list(20, 3, 2, 2, 2, 2, 2, 2, 2, 2), list(1, 2, 3, 4, 5, 6, 7, 8, 9), api.OK},
		{legs(), list(20, 2, 1, 2, 1, 2, 1), list(1, 4, 6), api.OK},
		{legs(), list(1, 5, 1, 5, 1, 5, 1), list(0, 2, 4, 6), api.OK},
		{star(4), nil, nil, api.ErrShape},
		{star(4), list(1, 1), nil, api.ErrShape},
		{star(4), list(1, 1, 1, 1, 1), nil, api.ErrShape},
		{star(4), list(0, 21, 1), nil, api.ErrShape},
		{star(4), make([]int, 100000), nil, api.ErrShape},
		{star(4), list(0, 1, 1, 1), nil, api.ErrRange},
		{star(4), list(1, 1, 1, 0), nil, api.ErrRange},
		{star(4), list(21, 1, 1, 1), nil, api.ErrRange},
		{star(4), list(1, 1, 1, 21), nil, api.ErrRange},
		{star(4), list(1, -1, 1, 1), nil, api.ErrRange},
		{star(4), list(1, 1, math.MaxInt, 1), nil, api.ErrRange},
		{star(4), list(1, math.MinInt, 1, 1), nil, api.ErrRange},
	} {
		if l, e := post.Cheapest(x.shore, x.prices); !slices.Equal(l, x.want) || e != x.e {
			t.Errorf("Cheapest(%v, %.10v) = %v, %d, want %v, %d", x.shore, x.prices, l, e, x.want, x.e)
		}
	}
}

// withSpare returns a copy of a list with an element behind its end, which must not be written to either.
func withSpare(numbers []int) []int { return append(slices.Clone(numbers), -7)[:len(numbers)] }

// overwrite writes to all memory of a list, also behind its end.
func overwrite(l []int) {
	l = l[:cap(l)]
	for i := range l {
		l[i] = -99
	}
}

// listsTold returns what the functions return that return lists.
func listsTold(shore []int, q question) [][]int {
	hand, _ := post.Hand(shore, q.place)
	fewest, _ := post.Fewest(shore)
	apart, _ := post.Apart(shore)
	always, _ := post.Always(shore)
	never, _ := post.Never(shore)
	cheapest, _ := post.Cheapest(shore, q.prices)
	return [][]int{hand, fewest, apart, always, never, cheapest}
}

// R4: arguments stay as they were, and results share no memory with them or with one another.
func TestOwnMemory(t *testing.T) {
	for _, shore := range [][]int{row(6), star(6), list(-1, 0, 1, 1, 2, 0), list(-1, 0, 0, 1, 1, 2)} {
		numbers, prices := list(1, 3, 4), list(3, 1, 2, 1, 5, 1)
		q := question{2, withSpare(numbers), withSpare(prices)}
		spare := withSpare(shore)
		want := listsTold(shore, q)
		for range 2 {
			told, again := listsTold(spare, q), listsTold(spare, q)
			for i := range want {
				overwrite(told[i])
				if !slices.Equal(again[i], want[i]) {
					t.Fatalf("%v: %v after other results were overwritten, want %v", shore, again[i], want[i])
				}
			}
			for _, c := range calls(spare, q) {
				c.run()
			}
			post.Check(spare)
		}
		for _, both := range [][2][]int{{spare, shore}, {q.numbers, numbers}, {q.prices, prices}} {
			if all := append(slices.Clone(both[1]), -7); !slices.Equal(both[0][:len(all)], all) {
				t.Errorf("an argument was changed: %v, want %v", both[0][:len(all)], all)
			}
		}
	}
}

// answers calls all functions and returns all that they return as numbers.
func answers(shore []int, q question) []int {
	all := list(int(post.Check(shore)))
	for _, told := range listsTold(shore, q) {
		all = append(append(all, len(told)), told...)
	}
	count, _ := post.Count(shore)
	ways, _ := post.Ways(shore)
	all = append(all, count, ways)
	for _, c := range calls(shore, q) {
		zero, e := c.run()
		all = append(all, int(e))
		if zero {
			all = append(all, -1)
		}
	}
	return all
}

// P1: every function returns for all arguments, and the same for equal ones; R3: nil is a list without elements.
func TestAllArguments(t *testing.T) {
	var some [][]int
	for _, bad := range allBadShores() {
		some = append(some, bad.shore)
	}
	for _, x := range allKnown() {
		some = append(some, x.shore)
	}
	for _, shore := range some {
		for _, q := range someQuestions() {
			again := question{q.place, slices.Clone(q.numbers), slices.Clone(q.prices)}
			if got, want := answers(slices.Clone(shore), again), answers(shore, q); !slices.Equal(got, want) {
				t.Fatalf("%v, %.10v: %v, then %v", shore, q, want, got)
			}
		}
		got, want := answers(shore, question{0, nil, nil}), answers(shore, question{0, list(), list()})
		if !slices.Equal(got, want) {
			t.Errorf("%v: %v with nil, %v with lists without elements", shore, got, want)
		}
	}
	if got, want := answers(nil, question{}), answers(list(), question{}); !slices.Equal(got, want) {
		t.Errorf("%v with nil, %v with a list without elements", got, want)
	}
}
