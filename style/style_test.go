package style_test

import (
	"math"
	"slices"
	"testing"

	"bellarmine/api"
	"bellarmine/style"
)

func list(numbers ...int) []int { return numbers }

func pairs(l ...[2]int) [][2]int { return l }

func finds(layers int, forms ...[]int) style.Finds { return style.Finds{Layers: layers, Forms: forms} }

// row, star and one are A, B and D of the chapter's examples.
func row() style.Finds { return finds(4, list(0, 1), list(1, 2), list(2, 3)) }

func star() style.Finds { return finds(4, list(0, 1), list(0, 2), list(0, 3)) }

func one() style.Finds { return finds(4, list(1, 2)) }

// triangle is three layers of which each two share a form.
func triangle() style.Finds { return finds(3, list(0, 1), list(1, 2), list(0, 2)) }

func upTo(n int) []int {
	numbers := []int{}
	for number := range n {
		numbers = append(numbers, number)
	}
	return numbers
}

type badFinds struct {
	name  string
	finds style.Finds
	want  api.Errno
}

func allBadFinds() []badFinds {
	return []badFinds{
		{"no layers", finds(0), api.ErrRange},
		{"nothing at all", style.Finds{}, api.ErrRange},
		{"8 layers", finds(8), api.ErrRange},
		{"fewer than no layers", finds(-1), api.ErrRange},
		{"layers at the end of int", finds(math.MaxInt), api.ErrRange},
		{"layers at the other end of int", finds(math.MinInt, list(0)), api.ErrRange},
		{"8 layers before 11 forms", finds(8, make([][]int, 11)...), api.ErrRange},
		{"no layers before a form without layers", finds(0, nil), api.ErrRange},
		{"11 forms", finds(2, slices.Repeat([][]int{{0}}, 11)...), api.ErrMany},
		{"11 forms before their layers", finds(2, make([][]int, 11)...), api.ErrMany},
		{"a form without layers, nil", finds(2, nil), api.ErrEmpty},
		{"a form without layers", finds(2, list(0), []int{}), api.ErrEmpty},
		{"a form without layers before a wrong one", finds(2, nil, list(2)), api.ErrEmpty},
		{"a number that is no layer", finds(2, list(0, 2)), api.ErrNone},
		{"a layer below 0", finds(2, list(-1)), api.ErrNone},
		{"a layer at the end of int", finds(7, list(0, math.MaxInt)), api.ErrNone},
		{"a layer at the other end of int", finds(7, list(6, math.MinInt)), api.ErrNone},
		{"a wrong layer of the first form before a second form without layers", finds(2, list(5), nil), api.ErrNone},
		{"a number that is no layer, and not greater", finds(2, list(1, -1)), api.ErrNone},
		{"a wrong layer before one that is not greater", finds(2, list(0, 5, 0)), api.ErrNone},
		{"descending layers", finds(2, list(1, 0)), api.ErrOrder},
		{"the same layer twice", finds(2, list(1, 1)), api.ErrOrder},
		{"the first layer twice", finds(1, list(0, 0)), api.ErrOrder},
		{"the same layer twice before a wrong one", finds(2, list(1, 1, 5)), api.ErrOrder},
		{"a descent at the end of the tenth form", finds(7, append(slices.Repeat([][]int{{0, 3, 6}}, 9), list(0, 1, 2, 5, 4))...), api.ErrOrder},
		{"a descent of the first form before a wrong layer of the second", finds(3, list(2, 0), list(3)), api.ErrOrder},
	}
}

// P3.1.
func TestCheck(t *testing.T) {
	for _, good := range []style.Finds{
		row(), star(), one(), triangle(), finds(1), finds(1, list(0)), finds(7), finds(7, upTo(7)), finds(7, list(6)),
		finds(2, slices.Repeat([][]int{{1}}, 10)...), finds(7, slices.Repeat([][]int{{0, 6}}, 10)...),
	} {
		if e := style.Check(good); e != api.OK {
			t.Errorf("Check(%v) = %d, want OK", good, e)
		}
	}
	for _, bad := range allBadFinds() {
		if e := style.Check(bad.finds); e != bad.want {
			t.Errorf("%s: Check = %d, want %d", bad.name, e, bad.want)
		}
	}
}

// call is a call of a function: whether it returned nothing besides its error, and this error.
type call struct {
	name string
	run  func() (bool, api.Errno)
}

// ordered are the calls of the functions that have an order.
func ordered(f style.Finds, order []int) []call {
	return []call{
		{"Whole", func() (bool, api.Errno) { is, e := style.Whole(f, order); return !is, e }},
		{"Gaps", func() (bool, api.Errno) { n, e := style.Gaps(f, order); return n == 0, e }},
		{"Dates", func() (bool, api.Errno) { l, e := style.Dates(f, order); return len(l) == 0, e }},
	}
}

// calls are the calls of all functions but Check.
func calls(f style.Finds, order []int, a, b, c int) []call {
	return append(ordered(f, order),
		call{"First", func() (bool, api.Errno) { l, e := style.First(f); return len(l) == 0, e }},
		call{"Count", func() (bool, api.Errno) { n, e := style.Count(f); return n == 0, e }},
		call{"Beside", func() (bool, api.Errno) { l, e := style.Beside(f); return len(l) == 0, e }},
		call{"Why", func() (bool, api.Errno) { a, b, c, e := style.Why(f); return a == 0 && b == 0 && c == 0, e }},
		call{"Proves", func() (bool, api.Errno) { return true, style.Proves(f, a, b, c) }},
		call{"Fewest", func() (bool, api.Errno) { l, e := style.Fewest(f); return len(l) == 0, e }},
	)
}

// P3.1: the error of the finds comes before those of all other arguments; R2: nothing besides it.
func TestBadFindsFirst(t *testing.T) {
	for _, bad := range allBadFinds() {
		for _, order := range [][]int{nil, list(0), list(0, 1), list(1, 1), list(-1, 9), upTo(7), upTo(8)} {
			for _, three := range [][3]int{{0, 1, 2}, {0, 0, 0}, {-1, 0, 9}} {
				for _, c := range calls(bad.finds, order, three[0], three[1], three[2]) {
					if zero, e := c.run(); !zero || e != bad.want {
						t.Errorf("%s: %s returns error %d, zero value %t, want %d", bad.name, c.name, e, zero, bad.want)
					}
				}
			}
		}
	}
}

// P3.2: the errors of an order; R2: nothing besides them.
func TestBadOrders(t *testing.T) {
	for _, bad := range []struct {
		name  string
		order []int
		want  api.Errno
	}{
		{"none", nil, api.ErrShape},
		{"an empty one", []int{}, api.ErrShape},
		{"three layers", list(0, 1, 2), api.ErrShape},
		{"five layers", list(0, 1, 2, 3, 4), api.ErrShape},
		{"five layers, one of them twice", list(0, 1, 2, 3, 3), api.ErrShape},
		{"a wrong length before a wrong number", list(9, 9), api.ErrShape},
		{"a layer of 4", list(0, 1, 2, 4), api.ErrNone},
		{"a layer below 0", list(-1, 1, 2, 3), api.ErrNone},
		{"a wrong number before a layer twice", list(4, 1, 1, 2), api.ErrNone},
		{"a wrong number twice", list(0, 4, 4, 1), api.ErrNone},
		{"numbers at the ends of int", list(0, math.MinInt, math.MaxInt, 1), api.ErrNone},
		{"a layer twice before a wrong number", list(0, 0, 1, 4), api.ErrTwice},
		{"the first layer again", list(2, 1, 3, 2), api.ErrTwice},
	} {
		for _, f := range []style.Finds{row(), star(), one(), finds(4)} {
			for _, c := range ordered(f, bad.order) {
				if zero, e := c.run(); !zero || e != bad.want {
					t.Errorf("%s: %s of %v returns error %d, zero value %t, want %d", bad.name, c.name, f, e, zero, bad.want)
				}
			}
		}
	}
}

// P3.2.
func TestWholeGapsAndDates(t *testing.T) {
	scattered := finds(5, list(0, 2, 4), list(1, 3), list(0, 1, 3, 4))
	for _, x := range []struct {
		name  string
		finds style.Finds
		order []int
		gaps  int
		dates [][2]int
	}{
		{"a row turned round", row(), list(3, 2, 1, 0), 0, pairs([2]int{2, 3}, [2]int{1, 2}, [2]int{0, 1})},
		{"a row with two exchanged", row(), list(0, 2, 1, 3), 2, pairs([2]int{0, 2}, [2]int{1, 2}, [2]int{1, 3})},
		{"a star", star(), list(1, 0, 2, 3), 1, pairs([2]int{0, 1}, [2]int{1, 2}, [2]int{1, 3})},
		{"two gaps of one form", scattered, list(0, 1, 2, 3, 4), 4, pairs([2]int{0, 4}, [2]int{1, 3}, [2]int{0, 4})},
		{"no gap", scattered, list(2, 4, 0, 1, 3), 0, pairs([2]int{0, 2}, [2]int{3, 4}, [2]int{1, 4})},
		{"a wide gap is one gap", finds(7, list(0, 6)), upTo(7), 1, pairs([2]int{0, 6})},
		{"as many gaps as can be", finds(7, list(0, 2, 4, 6)), upTo(7), 3, pairs([2]int{0, 6})},
		{"the same form twice", finds(3, list(0, 2), list(0, 2)), list(0, 1, 2), 2, pairs([2]int{0, 2}, [2]int{0, 2})},
		{"a form of one layer", finds(3, list(1)), list(2, 0, 1), 0, pairs([2]int{2, 2})},
		{"a form of all layers", finds(3, list(0, 1, 2)), list(1, 2, 0), 0, pairs([2]int{0, 2})},
		{"no forms", finds(2), list(1, 0), 0, nil},
		{"one layer, no forms", finds(1), list(0), 0, nil},
		{"one layer", finds(1, list(0), list(0)), list(0), 0, pairs([2]int{0, 0}, [2]int{0, 0})},
	} {
		if is, e := style.Whole(x.finds, x.order); is != (x.gaps == 0) || e != api.OK {
			t.Errorf("%s: Whole = %t, %d, want %t", x.name, is, e, x.gaps == 0)
		}
		if n, e := style.Gaps(x.finds, x.order); n != x.gaps || e != api.OK {
			t.Errorf("%s: Gaps = %d, %d, want %d", x.name, n, e, x.gaps)
		}
		if l, e := style.Dates(x.finds, x.order); !slices.Equal(l, x.dates) || e != api.OK {
			t.Errorf("%s: Dates = %v, %d, want %v", x.name, l, e, x.dates)
		}
	}
}

// fitting is finds that some order fits, and what is known of these orders.
type fitting struct {
	name   string
	finds  style.Finds
	first  []int
	count  int
	beside [][2]int
}

func allFitting() []fitting {
	return []fitting{
		{"a row", row(), list(0, 1, 2, 3), 2, pairs([2]int{0, 1}, [2]int{1, 2}, [2]int{2, 3})},
		{"one pair", one(), list(0, 1, 2, 3), 12, pairs([2]int{1, 2})},
		{"one layer", finds(1, list(0)), list(0), 1, nil},
		{"one layer, no forms", finds(1), list(0), 1, nil},
		{"two layers", finds(2), list(0, 1), 2, pairs([2]int{0, 1})},
		{"three layers", finds(3), list(0, 1, 2), 6, nil},
		{"seven layers", finds(7), upTo(7), 5040, nil},
		{"seven layers, all of one form", finds(7, upTo(7)), upTo(7), 5040, nil},
		{"two pairs", finds(4, list(0, 3), list(1, 2)), list(0, 3, 1, 2), 8, pairs([2]int{0, 3}, [2]int{1, 2})},
		{"a form in another one", finds(4, list(0, 2), list(0, 2, 3)), list(0, 2, 3, 1), 8, pairs([2]int{0, 2})},
		{"forms that overlap", finds(5, list(0, 1, 2, 3), list(1, 2, 3, 4), list(2, 3)), upTo(5), 8, pairs([2]int{2, 3})},
		{"the last order and its opposite alone", finds(4, list(1, 3), list(0, 2), list(0, 3)), list(1, 3, 0, 2), 2,
			pairs([2]int{0, 2}, [2]int{0, 3}, [2]int{1, 3})},
		{"a pair that no form has", finds(3, list(0, 1), list(2)), list(0, 1, 2), 4, pairs([2]int{0, 1})},
		{"a pair that only two forms have together", finds(5, list(0, 1, 2), list(2, 3, 4), list(1, 2, 3)),
			upTo(5), 2, pairs([2]int{0, 1}, [2]int{1, 2}, [2]int{2, 3}, [2]int{3, 4})},
		{"a row of seven, the forms ten", finds(7, list(5, 6), list(4, 5), list(3, 4), list(2, 3), list(1, 2), list(0, 1),
			upTo(7), list(0), list(0, 1, 2), list(2, 3, 4)), upTo(7), 2,
			pairs([2]int{0, 1}, [2]int{1, 2}, [2]int{2, 3}, [2]int{3, 4}, [2]int{4, 5}, [2]int{5, 6})},
	}
}

// P3.3, P3.4; P3.5, P3.6: what Why and Fewest return where some order fits.
func TestFitting(t *testing.T) {
	for _, x := range allFitting() {
		if l, e := style.First(x.finds); !slices.Equal(l, x.first) || e != api.OK {
			t.Errorf("%s: First = %v, %d, want %v", x.name, l, e, x.first)
		}
		if n, e := style.Count(x.finds); n != x.count || e != api.OK {
			t.Errorf("%s: Count = %d, %d, want %d", x.name, n, e, x.count)
		}
		if l, e := style.Beside(x.finds); !slices.Equal(l, x.beside) || e != api.OK {
			t.Errorf("%s: Beside = %v, %d, want %v", x.name, l, e, x.beside)
		}
		if a, b, c, e := style.Why(x.finds); a != 0 || b != 0 || c != 0 || e != api.ErrClash {
			t.Errorf("%s: Why = %d, %d, %d, %d, want ErrClash", x.name, a, b, c, e)
		}
		if l, e := style.Fewest(x.finds); len(l) != 0 || e != api.OK {
			t.Errorf("%s: Fewest = %v, %d, want none", x.name, l, e)
		}
	}
}

// lost is finds that no order fits.
type lost struct {
	name   string
	finds  style.Finds
	why    [3]int
	fewest []int
}

func allLost() []lost {
	return []lost{
		{"a star", star(), [3]int{1, 2, 3}, list(0)},
		{"a triangle", triangle(), [3]int{0, 1, 2}, list(0)},
		{"a ring of four", finds(4, list(0, 1), list(1, 2), list(2, 3), list(0, 3)), [3]int{0, 1, 2}, list(0)},
		{"two forms that differ by one layer each", finds(4, list(0, 1, 2), list(0, 1, 3), list(2, 3)), [3]int{0, 2, 3}, list(0)},
		{"a form that must go, not the first one", finds(5, list(0, 1), list(1, 2), list(2, 3), list(3, 4), list(0, 4), list(2, 3, 4), list(0, 1, 2)),
			[3]int{0, 1, 2}, list(4)},
		{"a form that is there twice", finds(3, list(0, 1), list(0, 1), list(1, 2), list(1, 2), list(0, 2)), [3]int{0, 1, 2}, list(4)},
		{"all forms there twice", finds(3, list(0, 1), list(0, 1), list(1, 2), list(1, 2), list(0, 2), list(0, 2)), [3]int{0, 1, 2}, list(0, 1)},
		{"the smallest list, its forms not side by side", finds(3, list(0, 1), list(1, 2), list(0, 1), list(1, 2), list(0, 2), list(0, 2)),
			[3]int{0, 1, 2}, list(0, 2)},
		{"two triangles", finds(6, list(0, 1), list(1, 2), list(0, 2), list(3, 4), list(4, 5), list(3, 5)), [3]int{0, 1, 2}, list(0, 3)},
		{"each two of five layers", finds(5, list(0, 1), list(0, 2), list(0, 3), list(0, 4), list(1, 2), list(1, 3), list(1, 4),
			list(2, 3), list(2, 4), list(3, 4)), [3]int{0, 1, 2}, list(0, 1, 2, 4, 6, 9)},
		{"chains of several forms", finds(7, list(0, 1), list(1, 2), list(2, 3), list(3, 4), list(2, 5), list(5, 6)), [3]int{0, 3, 5}, list(1)},
	}
}

// P3.3, P3.4, P3.5, P3.6: no order fits.
func TestLost(t *testing.T) {
	for _, x := range allLost() {
		if l, e := style.First(x.finds); len(l) != 0 || e != api.ErrLost {
			t.Errorf("%s: First = %v, %d, want ErrLost", x.name, l, e)
		}
		if n, e := style.Count(x.finds); n != 0 || e != api.OK {
			t.Errorf("%s: Count = %d, %d, want 0", x.name, n, e)
		}
		if l, e := style.Beside(x.finds); len(l) != 0 || e != api.ErrLost {
			t.Errorf("%s: Beside = %v, %d, want ErrLost", x.name, l, e)
		}
		if a, b, c, e := style.Why(x.finds); [3]int{a, b, c} != x.why || e != api.OK {
			t.Errorf("%s: Why = %d, %d, %d, %d, want %v", x.name, a, b, c, e, x.why)
		}
		if l, e := style.Fewest(x.finds); !slices.Equal(l, x.fewest) || e != api.OK {
			t.Errorf("%s: Fewest = %v, %d, want %v", x.name, l, e, x.fewest)
		}
	}
}

// P3.5.
func TestProves(t *testing.T) {
	for _, x := range []struct {
		name    string
		finds   style.Finds
		a, b, c int
		want    api.Errno
	}{
		{"apart", star(), 1, 2, 3, api.OK},
		{"apart, in another order", star(), 3, 1, 2, api.OK},
		{"apart, in descending order", star(), 3, 2, 1, api.OK},
		{"apart, not next to one another", finds(7, list(0, 1), list(1, 2), list(2, 3), list(3, 4), list(2, 5), list(5, 6)), 6, 0, 4, api.OK},
		{"a triangle", triangle(), 0, 1, 2, api.OK},
		{"a chain past the third one only for one pair", row(), 0, 1, 2, api.ErrProof},
		{"the one in the middle", star(), 0, 1, 2, api.ErrProof},
		{"the one in the middle last", star(), 1, 2, 0, api.ErrProof},
		{"layers without forms", finds(4), 1, 2, 3, api.ErrProof},
		{"a layer without forms", finds(4, list(0, 1), list(0, 1)), 0, 1, 2, api.ErrProof},
		{"a form that has all three", finds(3, list(0, 1, 2)), 0, 1, 2, api.ErrProof},
		{"all forms but one have the third one", finds(3, list(0, 1), list(0, 2), list(0, 1, 2)), 0, 1, 2, api.ErrProof},
		{"the first one three times", star(), 1, 1, 1, api.ErrTwice},
		{"the first two the same", star(), 1, 1, 2, api.ErrTwice},
		{"the first and the last the same", star(), 2, 1, 2, api.ErrTwice},
		{"the last two the same", star(), 1, 2, 2, api.ErrTwice},
		{"one layer", finds(1), 0, 0, 0, api.ErrTwice},
		{"the first is no layer", star(), 4, 1, 2, api.ErrNone},
		{"the second is no layer", star(), 1, -1, 2, api.ErrNone},
		{"the third is no layer", star(), 1, 2, 4, api.ErrNone},
		{"no layer, and the same", star(), -1, -1, 2, api.ErrNone},
		{"the same, and no layer", star(), 1, 1, 4, api.ErrNone},
		{"numbers at the ends of int", star(), 0, math.MinInt, math.MaxInt, api.ErrNone},
		{"two layers", finds(2), 0, 1, 2, api.ErrNone},
	} {
		if e := style.Proves(x.finds, x.a, x.b, x.c); e != x.want {
			t.Errorf("%s: Proves = %d, want %d", x.name, e, x.want)
		}
	}
}

// withSpare returns a copy of a list with a number behind its end, which must not be written to either.
func withSpare(numbers []int) []int { return append(slices.Clone(numbers), -7)[:len(numbers)] }

// R4: arguments stay as they were, and results share no memory with them or with one another.
func TestOwnMemory(t *testing.T) {
	order := withSpare(list(3, 2, 1, 0))
	fits, no := finds(4), finds(4)
	for i := range row().Forms {
		fits.Forms = append(fits.Forms, withSpare(row().Forms[i]))
		no.Forms = append(no.Forms, withSpare(star().Forms[i]))
	}
	for range 2 {
		dates, _ := style.Dates(fits, order)
		first, _ := style.First(fits)
		beside, _ := style.Beside(fits)
		fewest, _ := style.Fewest(no)
		if !slices.Equal(dates, pairs([2]int{2, 3}, [2]int{1, 2}, [2]int{0, 1})) || !slices.Equal(first, upTo(4)) ||
			!slices.Equal(beside, pairs([2]int{0, 1}, [2]int{1, 2}, [2]int{2, 3})) || !slices.Equal(fewest, list(0)) {
			t.Fatalf("results after others were overwritten: %v %v %v %v", dates, first, beside, fewest)
		}
		for _, l := range [][]int{first, fewest} {
			l = l[:cap(l)]
			for i := range l {
				l[i] = -99
			}
		}
		for _, l := range [][][2]int{dates, beside} {
			for i := range l {
				l[i] = [2]int{-99, -99}
			}
		}
		style.Check(fits)
		style.Whole(no, order)
		style.Gaps(no, order)
		style.Count(no)
		style.Why(no)
		style.Proves(no, 1, 2, 3)
	}
	if !slices.Equal(order, list(3, 2, 1, 0)) || !sameForms(fits.Forms, row().Forms) || !sameForms(no.Forms, star().Forms) {
		t.Errorf("arguments were changed: %v %v %v", order, fits, no)
	}
	for _, l := range slices.Concat([][]int{order}, fits.Forms, no.Forms) {
		if spare := l[:len(l)+1]; spare[len(l)] != -7 {
			t.Errorf("the memory behind %v was written to: %v", l, spare)
		}
	}
}

func sameForms(a, b [][]int) bool { return slices.EqualFunc(a, b, slices.Equal[[]int]) }

// P1: every function returns for all arguments, and the same for equal ones; R3: nil is a list without elements.
func TestAllArguments(t *testing.T) {
	lists := [][]int{nil, {}, {0}, {-1}, {1}, {math.MaxInt, math.MinInt}, {0, 1}, {1, 0}, {1, 1}, {0, 2}, {2, 0, 1}, {0, 1, 2},
		{5, 4, 3, 2, 1, 0, 6}, upTo(7), upTo(8), make([]int, 7), make([]int, 1000)}
	forms := [][][]int{nil, {}, {nil}, {{}}, {{0}}, {{1}}, {{0, 1}, {1, 0}}, {{0, 1}, {1}}, {{0, 1}, {1, 2}, {0, 2}}, {{math.MaxInt, 0}},
		{{0, 2, 4, 6}, {1, 3, 5}, {0, 6}}, {upTo(7)}, {upTo(8)}, make([][]int, 10), make([][]int, 11), make([][]int, 1000), lists,
		slices.Repeat([][]int{{0, 1}, {1, 2}, {0, 2}, {0}, {2}}, 2), {make([]int, 1000)}}
	for _, n := range []int{math.MinInt, -1, 0, 1, 2, 3, 7, 8, 9, 64, math.MaxInt} {
		for _, some := range forms {
			f := finds(n, some...)
			for _, order := range lists {
				if got, again := answers(f, order), answers(f, order); !slices.Equal(got, again) {
					t.Fatalf("%v, %v: %v, then %v", f, order, got, again)
				}
			}
			if got, want := answers(f, nil), answers(f, []int{}); !slices.Equal(got, want) {
				t.Errorf("%v: %v with nil, %v with a list without elements", f, got, want)
			}
		}
		if got, want := answers(finds(n), upTo(2)), answers(finds(n, [][]int{}...), upTo(2)); !slices.Equal(got, want) {
			t.Errorf("%d layers: %v with nil, %v with forms without elements", n, got, want)
		}
		if got, want := answers(finds(n, nil), upTo(2)), answers(finds(n, []int{}), upTo(2)); !slices.Equal(got, want) {
			t.Errorf("%d layers: %v with a nil form, %v with one without elements", n, got, want)
		}
	}
}

// answers calls all functions and returns all numbers that they return.
func answers(f style.Finds, order []int) []int {
	all := []int{int(style.Check(f))}
	add := func(numbers []int, e api.Errno) { all = append(append(append(all, len(numbers)), numbers...), int(e)) }
	addPairs := func(l [][2]int, e api.Errno) {
		for _, pair := range l {
			add(pair[:], e)
		}
		add(nil, e)
	}
	is, e := style.Whole(f, order)
	if is {
		add(list(1), e)
	}
	gaps, e := style.Gaps(f, order)
	add(list(gaps), e)
	addPairs(style.Dates(f, order))
	add(style.First(f))
	count, e := style.Count(f)
	add(list(count), e)
	addPairs(style.Beside(f))
	a, b, c, e := style.Why(f)
	add(list(a, b, c), e)
	for _, three := range [][3]int{{0, 1, 2}, {math.MaxInt, 0, 1}, {-1, math.MinInt, 0}, {0, 0, 0}, {6, 3, 0}, {64, 65, 66}} {
		add(nil, style.Proves(f, three[0], three[1], three[2]))
	}
	add(style.Fewest(f))
	return all
}
