package mould_test

import (
	"math"
	"slices"
	"testing"

	"bellarmine/api"
	"bellarmine/mould"
)

func list(numbers ...int) []int { return numbers }

// four, two and all are C, D and E of the chapter's examples.
func four() []int { return list(1, 3, 7, 8, 0) }

func two() []int { return list(3, 1, 2) }

func all() []int { return list(0, 1, 2, 3) }

func upTo(n int) []int {
	numbers := []int{}
	for number := range n {
		numbers = append(numbers, number)
	}
	return numbers
}

type badCasts struct {
	name  string
	marks int
	casts []int
	want  api.Errno
}

func allBadCasts() []badCasts {
	return []badCasts{
		{"no marks", 0, nil, api.ErrRange},
		{"7 marks", 7, list(1), api.ErrRange},
		{"fewer than no marks", -1, nil, api.ErrRange},
		{"marks at the end of int", math.MaxInt, nil, api.ErrRange},
		{"marks at the other end of int", math.MinInt, list(0), api.ErrRange},
		{"more marks than an int has bits", 65, list(1), api.ErrRange},
		{"7 marks before 9 casts", 7, make([]int, 9), api.ErrRange},
		{"no marks before a wrong cast", 0, list(1), api.ErrRange},
		{"9 casts", 2, make([]int, 9), api.ErrMany},
		{"9 casts before their marks", 2, slices.Repeat(list(4), 9), api.ErrMany},
		{"very many casts", 6, make([]int, 100000), api.ErrMany},
		{"a cast of 4 of 2 marks", 2, list(4), api.ErrNone},
		{"a cast below 0", 2, list(-1), api.ErrNone},
		{"a cast of 2 of one mark", 1, list(0, 1, 2), api.ErrNone},
		{"a cast of 64 of 6 marks", 6, list(64), api.ErrNone},
		{"a cast of 8 of 3 marks behind others", 3, list(7, 0, 8), api.ErrNone},
		{"a wrong cast before right ones", 3, list(-8, 7, 0), api.ErrNone},
		{"a wrong cast at the end of 8", 6, list(0, 0, 0, 0, 0, 0, 0, 100), api.ErrNone},
		{"a cast with a bit far above the marks", 3, list(1 << 62), api.ErrNone},
		{"casts at the ends of int", 6, list(math.MaxInt, math.MinInt), api.ErrNone},
		{"a wrong cast of marks that clash", 2, list(3, 1, 2, 4), api.ErrNone},
	}
}

// P6.1.
func TestCheck(t *testing.T) {
	for _, good := range []struct {
		marks int
		casts []int
	}{
		{4, four()}, {2, two()}, {2, all()}, {1, nil}, {1, list()}, {6, nil}, {1, list(0, 1)}, {6, list(63, 0)},
		{3, upTo(8)}, {6, slices.Repeat(list(63), 8)}, {2, make([]int, 8)}, {5, list(31)},
	} {
		if e := mould.Check(good.marks, good.casts); e != api.OK {
			t.Errorf("Check(%d, %v) = %d, want OK", good.marks, good.casts, e)
		}
	}
	for _, bad := range allBadCasts() {
		if e := mould.Check(bad.marks, bad.casts); e != bad.want {
			t.Errorf("%s: Check = %d, want %d", bad.name, e, bad.want)
		}
	}
}

// call is a call of a function: whether it returned nothing besides its error, and this error.
type call struct {
	name string
	run  func() (bool, api.Errno)
}

// calls are the calls of all functions but Check; those that have numbers besides the casts have the given ones.
func calls(marks int, casts []int, a, b int) []call {
	return []call{
		{"Honest", func() (bool, api.Errno) { is, e := mould.Honest(marks, casts); return !is, e }},
		{"Why", func() (bool, api.Errno) { one, two, e := mould.Why(marks, casts); return one == 0 && two == 0, e }},
		{"Proves", func() (bool, api.Errno) { return true, mould.Proves(marks, casts, a, b, a, b, a) }},
		{"Origin", func() (bool, api.Errno) { l, e := mould.Origin(marks, casts); return len(l) == 0, e }},
		{"Path", func() (bool, api.Errno) { l, e := mould.Path(marks, casts, a); return len(l) == 0, e }},
		{"Last", func() (bool, api.Errno) { n, e := mould.Last(marks, casts, a, b); return n == 0, e }},
		{"Forged", func() (bool, api.Errno) { l, e := mould.Forged(marks, casts); return len(l) == 0, e }},
		{"Worn", func() (bool, api.Errno) { l, e := mould.Worn(marks, casts); return len(l) == 0, e }},
		{"Model", func() (bool, api.Errno) { n, e := mould.Model(marks, casts); return n == 0, e }},
	}
}

// P6.1: the error of the casts comes before all others; R2: nothing besides it.
func TestBadCastsFirst(t *testing.T) {
	for _, bad := range allBadCasts() {
		for _, numbers := range [][2]int{{0, 0}, {0, 1}, {-1, 9}, {math.MinInt, math.MaxInt}} {
			for _, c := range calls(bad.marks, bad.casts, numbers[0], numbers[1]) {
				if zero, e := c.run(); !zero || e != bad.want {
					t.Errorf("%s: %s returns error %d, zero value %t, want %d", bad.name, c.name, e, zero, bad.want)
				}
			}
		}
	}
}

// line is honest casts, the origin of their marks, and their paths.
type line struct {
	name   string
	marks  int
	casts  []int
	origin []int
	paths  [][]int
}

func allLines() []line {
	return []line{
		{"C", 4, four(), list(-1, 0, 1, -1), [][]int{{0}, {0, 1}, {0, 1, 2}, {3}, nil}},
		{"two casts with the same two of three marks", 3, list(6, 6), list(-1, -1, 1), [][]int{{1, 2}, {1, 2}}},
		{"one mark, no casts", 1, nil, list(-1), nil},
		{"six marks, no casts", 6, nil, list(-1, -1, -1, -1, -1, -1), nil},
		{"casts without marks", 3, list(0, 0), list(-1, -1, -1), [][]int{nil, nil}},
		{"one mark in 8 casts", 1, list(1, 1, 1, 1, 1, 1, 1, 1), list(-1), slices.Repeat([][]int{{0}}, 8)},
		{"all marks in one cast", 6, list(63), list(-1, 0, 1, 2, 3, 4), [][]int{upTo(6)}},
		{"a mark less from cast to cast", 6, list(63, 62, 60, 56, 48, 32), list(1, 2, 3, 4, 5, -1),
			[][]int{{5, 4, 3, 2, 1, 0}, {5, 4, 3, 2, 1}, {5, 4, 3, 2}, {5, 4, 3}, {5, 4}, {5}}},
		{"the same casts have three marks, and one more has a greater one", 4, list(15, 15, 8), list(3, 0, 1, -1),
			[][]int{{3, 0, 1, 2}, {3, 0, 1, 2}, {3}}},
		{"the greatest of two marks that the same casts have", 3, list(7, 6), list(2, -1, 1), [][]int{{1, 2, 0}, {1, 2}}},
		{"the greatest of two pairs that the same casts have", 4, list(5, 5, 15), list(-1, 2, 0, 1),
			[][]int{{0, 2}, {0, 2}, {0, 2, 1, 3}}},
		{"a line that parts", 5, list(17, 18, 16, 20, 24), list(4, 4, 4, 4, -1), [][]int{{4, 0}, {4, 1}, {4}, {4, 2}, {4, 3}}},
		{"a line that parts and was never seen before", 3, list(5, 6), list(2, 2, -1), [][]int{{2, 0}, {2, 1}}},
		{"many lines", 6, list(1, 2, 4, 8, 16, 32), list(-1, -1, -1, -1, -1, -1), [][]int{{0}, {1}, {2}, {3}, {4}, {5}}},
		{"two lines of three marks", 6, list(42, 21, 40, 5, 0, 8), list(-1, 5, 0, -1, 2, 3),
			[][]int{{3, 5, 1}, {0, 2, 4}, {3, 5}, {0, 2}, nil, {3}}},
		{"both marks, and the first alone", 2, list(3, 1), list(-1, 0), [][]int{{0, 1}, {0}}},
		{"both marks, and the second alone", 2, list(3, 2), list(1, -1), [][]int{{1, 0}, {1}}},
		{"each mark alone", 2, list(1, 2), list(-1, -1), [][]int{{0}, {1}}},
		{"both marks, the first alone, and none", 2, list(0, 1, 3), list(-1, 0), [][]int{nil, {0}, {0, 1}}},
		{"each mark alone, and none", 2, list(2, 0, 1), list(-1, -1), [][]int{{1}, nil, {0}}},
	}
}

// P6.1, P6.2, P6.3, P6.4.
func TestLines(t *testing.T) {
	for _, x := range allLines() {
		if is, e := mould.Honest(x.marks, x.casts); !is || e != api.OK {
			t.Errorf("%s: Honest = %t, %d", x.name, is, e)
		}
		if one, two, e := mould.Why(x.marks, x.casts); one != 0 || two != 0 || e != api.ErrClash {
			t.Errorf("%s: Why = %d, %d, %d, want ErrClash", x.name, one, two, e)
		}
		if l, e := mould.Origin(x.marks, x.casts); !slices.Equal(l, x.origin) || e != api.OK {
			t.Errorf("%s: Origin = %v, %d, want %v", x.name, l, e, x.origin)
		}
		for i, want := range x.paths {
			if l, e := mould.Path(x.marks, x.casts, i); !slices.Equal(l, want) || e != api.OK {
				t.Errorf("%s: Path of %d = %v, %d, want %v", x.name, i, l, e, want)
			}
		}
	}
}

// P6.4.
func TestLast(t *testing.T) {
	for _, x := range []struct {
		name  string
		marks int
		casts []int
		a, b  int
		want  int
	}{
		{"C, casts of one line", 4, four(), 1, 2, 1},
		{"C, the same the other way round", 4, four(), 2, 1, 1},
		{"C, the first and the last one of a line", 4, four(), 2, 0, 0},
		{"C, casts of two lines", 4, four(), 0, 3, -1},
		{"C, a cast and itself", 4, four(), 2, 2, 2},
		{"C, a cast without marks", 4, four(), 4, 2, -1},
		{"C, a cast without marks and itself", 4, four(), 4, 4, -1},
		{"a line that parts after a greater mark", 3, list(4, 6, 5), 1, 2, 2},
		{"a line that parts after the smallest mark", 3, list(3, 5), 0, 1, 0},
		{"the greatest mark is not the last one", 4, list(13, 14), 0, 1, 3},
		{"the last one is smaller than the one before it", 4, list(13, 14, 8), 0, 1, 2},
		{"two casts that are the same", 3, list(6, 6), 0, 1, 2},
		{"all but the last mark", 6, list(63, 62), 0, 1, 5},
	} {
		if n, e := mould.Last(x.marks, x.casts, x.a, x.b); n != x.want || e != api.OK {
			t.Errorf("%s: Last = %d, %d, want %d", x.name, n, e, x.want)
		}
	}
}

// P6.4: wrong indices come before casts that are not honest; R2: nothing besides an error.
func TestBadIndices(t *testing.T) {
	for _, x := range []struct {
		name  string
		marks int
		casts []int
		a, b  int
		want  api.Errno
	}{
		{"an index of 5", 4, four(), 5, 0, api.ErrNone},
		{"an index below 0", 4, four(), -1, 0, api.ErrNone},
		{"an index at the end of int", 4, four(), math.MaxInt, 0, api.ErrNone},
		{"an index at the other end of int", 4, four(), math.MinInt, 0, api.ErrNone},
		{"an index of none", 6, nil, 0, 0, api.ErrNone},
		{"an index of 3, and marks that clash", 2, two(), 3, 0, api.ErrNone},
		{"an index below 0, and marks that clash", 2, two(), -1, 3, api.ErrNone},
		{"marks that clash", 2, two(), 0, 0, api.ErrLost},
		{"marks that clash, the last cast", 2, two(), 2, 1, api.ErrLost},
		{"marks that clash, and casts that have none of them", 3, list(3, 1, 2, 4, 0), 3, 4, api.ErrLost},
	} {
		if l, e := mould.Path(x.marks, x.casts, x.a); len(l) != 0 || e != x.want {
			t.Errorf("%s: Path = %v, %d, want %d", x.name, l, e, x.want)
		}
		if n, e := mould.Last(x.marks, x.casts, x.a, x.b); n != 0 || e != x.want {
			t.Errorf("%s: Last = %d, %d, want %d", x.name, n, e, x.want)
		}
		if n, e := mould.Last(x.marks, x.casts, x.b, x.a); n != 0 || e != x.want {
			t.Errorf("%s: Last the other way round = %d, %d, want %d", x.name, n, e, x.want)
		}
	}
}

// clash is casts that are not honest, and what is known of them.
type clash struct {
	name         string
	marks        int
	casts        []int
	one, two     int
	forged, worn []int
}

func allClashes() []clash {
	return []clash{
		{"D", 2, two(), 0, 1, list(0), list(0)},
		{"E", 2, all(), 0, 1, list(1), list(0)},
		{"the casts at the end of 8", 2, list(0, 0, 0, 0, 0, 3, 1, 2), 0, 1, list(5), list(0)},
		{"the second mark and the third one", 3, list(6, 2, 4), 1, 2, list(0), list(1)},
		{"the first mark and the third one", 3, list(5, 1, 4), 0, 2, list(0), list(0)},
		{"the last two of six marks", 6, list(33, 32, 18, 16, 48), 4, 5, list(4), list(4)},
		{"all pairs of three marks", 3, list(3, 5, 6), 0, 1, list(0), list(0, 1)},
		{"a pair whose second mark is great before one whose first is", 6, list(6, 2, 4, 33, 1, 32), 0, 5, list(0, 3), list(0, 1)},
		{"two pairs that share no cast", 4, list(3, 1, 2, 12, 4, 8), 0, 1, list(0, 3), list(0, 2)},
		{"two pairs that share the greater mark", 3, list(5, 1, 6, 2, 4), 0, 2, list(0, 2), list(2)},
		{"two pairs that share the middle mark", 3, list(3, 1, 6, 4, 2), 0, 1, list(0, 2), list(1)},
		{"one cast is fewer than the first two", 2, list(3, 3, 1, 2), 0, 1, list(2), list(0)},
		{"two casts of each kind, one behind the other", 2, list(3, 3, 1, 1, 2, 2), 0, 1, list(0, 1), list(0)},
		{"two casts of each kind, the first and the last alike", 2, list(2, 3, 1, 3, 1, 2), 0, 1, list(0, 5), list(0)},
		{"two casts of two kinds, and one at the end", 2, list(3, 3, 1, 1, 2), 0, 1, list(4), list(0)},
		{"all casts of three marks", 3, upTo(8), 0, 1, list(1, 2, 3, 5), list(0, 1)},
	}
}

// P6.1, P6.2, P6.3, P6.5; R2: nothing besides an error.
func TestClashes(t *testing.T) {
	for _, x := range allClashes() {
		if is, e := mould.Honest(x.marks, x.casts); is || e != api.OK {
			t.Errorf("%s: Honest = %t, %d", x.name, is, e)
		}
		if one, two, e := mould.Why(x.marks, x.casts); one != x.one || two != x.two || e != api.OK {
			t.Errorf("%s: Why = %d, %d, %d, want %d, %d", x.name, one, two, e, x.one, x.two)
		}
		if l, e := mould.Origin(x.marks, x.casts); len(l) != 0 || e != api.ErrLost {
			t.Errorf("%s: Origin = %v, %d, want ErrLost", x.name, l, e)
		}
		if l, e := mould.Forged(x.marks, x.casts); !slices.Equal(l, x.forged) || e != api.OK {
			t.Errorf("%s: Forged = %v, %d, want %v", x.name, l, e, x.forged)
		}
		if l, e := mould.Worn(x.marks, x.casts); !slices.Equal(l, x.worn) || e != api.OK {
			t.Errorf("%s: Worn = %v, %d, want %v", x.name, l, e, x.worn)
		}
	}
	for _, x := range allLines() {
		if l, e := mould.Forged(x.marks, x.casts); len(l) != 0 || e != api.OK {
			t.Errorf("%s: Forged = %v, %d, want none", x.name, l, e)
		}
		if l, e := mould.Worn(x.marks, x.casts); len(l) != 0 || e != api.OK {
			t.Errorf("%s: Worn = %v, %d, want none", x.name, l, e)
		}
	}
}

// P6.2.
func TestProves(t *testing.T) {
	for _, x := range []struct {
		name                string
		marks               int
		casts               []int
		one, two            int
		both, first, second int
		want                api.Errno
	}{
		{"D", 2, two(), 0, 1, 0, 1, 2, api.OK},
		{"D, the greater mark first", 2, two(), 1, 0, 0, 2, 1, api.OK},
		{"E", 2, all(), 0, 1, 3, 1, 2, api.OK},
		{"marks that are not the first pair", 4, list(3, 1, 2, 12, 4, 8), 2, 3, 3, 4, 5, api.OK},
		{"casts with other marks, too", 3, list(7, 5, 6), 0, 1, 0, 1, 2, api.OK},
		{"the last marks and casts", 6, list(0, 0, 0, 0, 0, 48, 16, 32), 4, 5, 5, 6, 7, api.OK},
		{"the cast with the first exchanged with that with the second", 2, two(), 0, 1, 0, 2, 1, api.ErrProof},
		{"the greater mark first, and the casts as if it were not", 2, two(), 1, 0, 0, 1, 2, api.ErrProof},
		{"the cast with both has the first alone", 2, two(), 0, 1, 1, 1, 2, api.ErrProof},
		{"the cast with both has the second alone", 2, two(), 0, 1, 2, 1, 2, api.ErrProof},
		{"the cast with both has none", 2, all(), 0, 1, 0, 1, 2, api.ErrProof},
		{"the cast with the first has both", 2, two(), 0, 1, 0, 0, 2, api.ErrProof},
		{"the cast with the first has none", 2, all(), 0, 1, 3, 0, 2, api.ErrProof},
		{"the cast with the second has both", 2, two(), 0, 1, 0, 1, 0, api.ErrProof},
		{"the cast with the second has none", 2, all(), 0, 1, 3, 1, 0, api.ErrProof},
		{"a mark with itself", 2, two(), 0, 0, 0, 1, 2, api.ErrProof},
		{"a mark with itself, and one cast", 2, two(), 1, 1, 0, 0, 0, api.ErrProof},
		{"honest casts", 4, four(), 0, 1, 1, 0, 3, api.ErrProof},
		{"a first mark of 2", 2, two(), 2, 1, 0, 1, 2, api.ErrNone},
		{"a second mark of 2", 2, two(), 0, 2, 0, 1, 2, api.ErrNone},
		{"a first mark below 0", 2, two(), -1, 1, 0, 1, 2, api.ErrNone},
		{"a second mark below 0", 2, two(), 0, -1, 0, 1, 2, api.ErrNone},
		{"marks at the ends of int", 2, two(), math.MaxInt, math.MinInt, 0, 1, 2, api.ErrNone},
		{"a mark with the number of a cast", 2, two(), 0, 2, 0, 1, 1, api.ErrNone},
		{"a cast with both of 3", 2, two(), 0, 1, 3, 1, 2, api.ErrNone},
		{"a cast with both below 0", 2, two(), 0, 1, -1, 1, 2, api.ErrNone},
		{"a cast with the first of 3", 2, two(), 0, 1, 0, 3, 2, api.ErrNone},
		{"a cast with the first below 0", 2, two(), 0, 1, 0, -1, 2, api.ErrNone},
		{"a cast with the second of 3", 2, two(), 0, 1, 0, 1, 3, api.ErrNone},
		{"a cast with the second below 0", 2, two(), 0, 1, 0, 1, -1, api.ErrNone},
		{"casts at the ends of int", 2, two(), 0, 1, 0, math.MinInt, math.MaxInt, api.ErrNone},
		{"no casts", 2, nil, 0, 1, 0, 0, 0, api.ErrNone},
		{"no proof, and a wrong cast", 2, two(), 0, 1, 1, 1, 3, api.ErrNone},
		{"no proof, and a wrong mark", 2, two(), 0, 2, 1, 1, 1, api.ErrNone},
	} {
		if e := mould.Proves(x.marks, x.casts, x.one, x.two, x.both, x.first, x.second); e != x.want {
			t.Errorf("%s: Proves = %d, want %d", x.name, e, x.want)
		}
	}
}

// P6.6; R2: nothing besides an error.
func TestModel(t *testing.T) {
	for _, x := range []struct {
		name  string
		marks int
		casts []int
		want  int
		e     api.Errno
	}{
		{"C", 4, four(), 0, api.OK},
		{"D", 2, two(), 1, api.OK},
		{"E", 2, all(), 0, api.ErrLost},
		{"no casts", 6, nil, 0, api.OK},
		{"one cast with all marks", 6, list(63), 0, api.OK},
		{"one cast without marks", 1, list(0), 0, api.OK},
		{"the first mark alone, and both ones", 2, list(1, 2, 3), 1, api.OK},
		{"all pairs of three marks", 3, list(3, 5, 6), 3, api.OK},
		{"the last two of six marks", 6, list(48, 16, 32), 16, api.OK},
		{"the same with a cast that has none of them", 6, list(48, 16, 32, 15), 0, api.ErrLost},
		{"the smallest model is none of the casts", 5, list(6, 9, 19), 1, api.OK},
		{"two pairs that share the middle mark", 3, list(3, 1, 6, 4, 2), 0, api.ErrLost},
		{"all casts of three marks", 3, upTo(8), 0, api.ErrLost},
		{"one of the casts is twice", 2, list(3, 3, 1, 1, 2), 1, api.OK},
		{"casts with all marks but one", 6, list(62, 61, 59, 55, 47, 31), 31, api.OK},
	} {
		if n, e := mould.Model(x.marks, x.casts); n != x.want || e != x.e {
			t.Errorf("%s: Model = %d, %d, want %d, %d", x.name, n, e, x.want, x.e)
		}
	}
}

// withSpare returns a copy of a list with an element behind its end, which must not be written to either.
func withSpare(numbers []int) []int { return append(slices.Clone(numbers), -7)[:len(numbers)] }

// overwrite writes to all memory of a list, also behind its end.
func overwrite(numbers []int) {
	numbers = numbers[:cap(numbers)]
	for i := range numbers {
		numbers[i] = -99
	}
}

// R4: arguments stay as they were, and results share no memory with them or with one another.
func TestOwnMemory(t *testing.T) {
	casts, forged := withSpare(four()), withSpare(list(3, 1, 6, 4, 2))
	for range 2 {
		origin, _ := mould.Origin(4, casts)
		path, _ := mould.Path(4, casts, 2)
		other, _ := mould.Path(4, casts, 2)
		out, _ := mould.Forged(3, forged)
		worn, _ := mould.Worn(3, forged)
		for _, x := range []struct{ got, want []int }{
			{origin, list(-1, 0, 1, -1)}, {path, upTo(3)}, {other, upTo(3)}, {out, list(0, 2)}, {worn, list(1)},
		} {
			if !slices.Equal(x.got, x.want) {
				t.Fatalf("%v after other results were overwritten, want %v", x.got, x.want)
			}
			overwrite(x.got)
		}
		for _, c := range append(calls(4, casts, 0, 1), calls(3, forged, 0, 1)...) {
			c.run()
		}
		mould.Check(4, casts)
	}
	if !slices.Equal(casts[:6], append(four(), -7)) || !slices.Equal(forged[:6], list(3, 1, 6, 4, 2, -7)) {
		t.Errorf("casts were changed: %v %v", casts[:6], forged[:6])
	}
}

// answers calls all functions and returns all numbers that they return.
func answers(marks int, casts []int, a, b int) []int {
	all := list(int(mould.Check(marks, casts)), int(mould.Proves(marks, casts, a, b, 0, 1, 2)), int(mould.Proves(marks, casts, 0, 1, a, b, a)))
	add := func(numbers []int, e api.Errno) { all = append(append(append(all, len(numbers)), numbers...), int(e)) }
	if is, e := mould.Honest(marks, casts); is {
		add(list(1), e)
	} else {
		add(nil, e)
	}
	one, two, e := mould.Why(marks, casts)
	add(list(one, two), e)
	add(mould.Origin(marks, casts))
	add(mould.Path(marks, casts, a))
	last, e := mould.Last(marks, casts, a, b)
	add(list(last), e)
	add(mould.Forged(marks, casts))
	add(mould.Worn(marks, casts))
	model, e := mould.Model(marks, casts)
	add(list(model), e)
	return all
}

// P1: every function returns for all arguments, and the same for equal ones; R3: nil is a list without elements.
func TestAllArguments(t *testing.T) {
	some := [][]int{nil, {}, {0}, {-1}, {1}, {math.MaxInt, math.MinInt}, four(), two(), all(), upTo(8), upTo(9), list(63, 62, 60, 56),
		list(33, 32, 18, 16, 48), make([]int, 8), make([]int, 9), make([]int, 1000), upTo(1000), slices.Repeat(list(63), 8)}
	numbers := []int{math.MinInt, -1, 0, 1, 2, 5, 7, 8, 63, 64, math.MaxInt}
	for _, marks := range []int{math.MinInt, -1, 0, 1, 2, 3, 4, 6, 7, 62, 63, 64, math.MaxInt} {
		for _, casts := range some {
			for _, a := range numbers {
				for _, b := range numbers {
					got, again := answers(marks, casts, a, b), answers(marks, slices.Clone(casts), a, b)
					if !slices.Equal(got, again) {
						t.Fatalf("%d, %v, %d, %d: %v, then %v", marks, casts, a, b, got, again)
					}
				}
			}
		}
		if got, want := answers(marks, nil, 0, 1), answers(marks, list(), 0, 1); !slices.Equal(got, want) {
			t.Errorf("%d marks: %v with nil, %v with casts without elements", marks, got, want)
		}
	}
}
