package chart_test

import (
	"math"
	"slices"
	"testing"

	"bellarmine/api"
	"bellarmine/chart"
)

func list(numbers ...int) []int { return numbers }

func lists(all ...[]int) [][]int { return all }

func drawn(points ...[]int) chart.Map { return chart.Map{Points: points} }

// triangle, pair, cross and loop are A to D of the chapter's examples; four is a flat map of four points that are all joined.
func triangle() chart.Map { return drawn(list(0, 5), list(1, 2), list(3, 4)) }

func pair() chart.Map { return drawn(list(0, 2), list(1, 3)) }

func cross() chart.Map { return drawn(list(0, 2, 1, 3)) }

func loop() chart.Map { return drawn(list(0, 1)) }

func four() chart.Map { return drawn(list(0, 2, 4), list(6, 1, 8), list(10, 3, 7), list(9, 5, 11)) }

func upTo(n int) []int {
	numbers := []int{}
	for number := range n {
		numbers = append(numbers, number)
	}
	return numbers
}

func sameLists(a, b [][]int) bool { return slices.EqualFunc(a, b, slices.Equal[[]int]) }

type badMap struct {
	name string
	m    chart.Map
	want api.Errno
}

func allBadMaps() []badMap {
	return []badMap{
		{"17 ends", drawn(upTo(17)), api.ErrMany},
		{"18 ends at 2 points", drawn(list(0, 1, 2, 3, 4, 5, 6, 7, 8), list(9, 10, 11, 12, 13, 14, 15, 16, 17)), api.ErrMany},
		{"17 ends before their numbers", drawn(make([]int, 17)), api.ErrMany},
		{"17 ends before a point without ends", drawn(nil, make([]int, 9), make([]int, 8)), api.ErrMany},
		{"17 points", chart.Map{Points: slices.Repeat(lists(list(0)), 17)}, api.ErrMany},
		{"very many ends", drawn(make([]int, 100000)), api.ErrMany},
		{"very many points", chart.Map{Points: slices.Repeat(lists(list(0, 1)), 100000)}, api.ErrMany},
		{"a point without ends", drawn(nil), api.ErrEmpty},
		{"a list without elements", drawn(list()), api.ErrEmpty},
		{"very many points without ends", drawn(make([][]int, 100000)...), api.ErrEmpty},
		{"a point without ends at the end", drawn(list(0, 1), nil), api.ErrEmpty},
		{"a point without ends before a wrong number", drawn(list(0), nil, list(3)), api.ErrEmpty},
		{"a point without ends before an odd number", drawn(list(0), list()), api.ErrEmpty},
		{"a number as great as the ends are many", drawn(list(0, 2)), api.ErrNone},
		{"below 0", drawn(list(0, -1)), api.ErrNone},
		{"below 0 at first", drawn(list(-1), list(0)), api.ErrNone},
		{"one end, and 1", drawn(list(1)), api.ErrNone},
		{"16 ends, and 16", drawn(list(0, 1, 2, 3, 4, 5, 6, 7), list(8, 9, 10, 11, 12, 13, 14, 16)), api.ErrNone},
		{"the greatest int", drawn(list(0, math.MaxInt)), api.ErrNone},
		{"the smallest int", drawn(list(math.MinInt, 0)), api.ErrNone},
		{"a wrong number before an odd number", drawn(list(0, 1, 3)), api.ErrNone},
		{"a wrong number twice", drawn(list(5, 5)), api.ErrNone},
		{"a wrong number before one that is told twice", drawn(list(4, 0), list(0, 1)), api.ErrNone},
		{"a wrong number before a point without ends", drawn(list(3), nil, list(0)), api.ErrNone},
		{"twice at one point", drawn(list(0, 0)), api.ErrTwice},
		{"twice at two points", drawn(list(0), list(0)), api.ErrTwice},
		{"twice, with others between", drawn(list(1, 2), list(3), list(0, 1), list(4, 5)), api.ErrTwice},
		{"twice at the end of 16", drawn(upTo(15), list(0)), api.ErrTwice},
		{"twice before an odd number", drawn(list(0, 1, 1)), api.ErrTwice},
		{"twice before a wrong number", drawn(list(1, 1, 5)), api.ErrTwice},
		{"twice before a point without ends", drawn(list(1), list(1), nil), api.ErrTwice},
		{"one end", drawn(list(0)), api.ErrShape},
		{"three ends", drawn(list(0, 1, 2)), api.ErrShape},
		{"three ends at three points", drawn(list(2), list(0), list(1)), api.ErrShape},
		{"15 ends", drawn(upTo(15)), api.ErrShape},
	}
}

// P9.1: Check.
func TestCheck(t *testing.T) {
	for _, good := range []chart.Map{
		triangle(), pair(), cross(), loop(), {}, drawn(), drawn(upTo(16)), drawn(list(1), list(0)),
		drawn(list(15, 0), list(14, 13, 1), list(12, 11, 10), list(2, 4, 6, 8), list(9), list(3, 7, 5)),
		{Points: slices.Collect(slices.Chunk(upTo(16), 1))},
	} {
		if e := chart.Check(good); e != api.OK {
			t.Errorf("Check(%v) = %d, want OK", good, e)
		}
	}
	for _, bad := range allBadMaps() {
		if e := chart.Check(bad.m); e != bad.want {
			t.Errorf("%s: Check = %d, want %d", bad.name, e, bad.want)
		}
	}
}

// call is a call of a function: whether it returned nothing besides its error, and this error.
type call struct {
	name string
	run  func() (bool, api.Errno)
}

// colourCalls are the calls of the functions that look for colours.
func colourCalls(m chart.Map) []call {
	return []call{
		{"Fewest", func() (bool, api.Errno) { n, e := chart.Fewest(m); return n == 0, e }},
		{"Colour", func() (bool, api.Errno) { l, e := chart.Colour(m); return len(l) == 0, e }},
		{"Odd", func() (bool, api.Errno) { l, e := chart.Odd(m); return len(l) == 0, e }},
	}
}

// calls are the calls of all functions but Check.
func calls(m chart.Map, line int, colours []int) []call {
	return append(colourCalls(m),
		call{"Tidy", func() (bool, api.Errno) { o, e := chart.Tidy(m); return len(o.Points) == 0, e }},
		call{"Faces", func() (bool, api.Errno) { l, e := chart.Faces(m); return len(l) == 0, e }},
		call{"Parts", func() (bool, api.Errno) { n, e := chart.Parts(m); return n == 0, e }},
		call{"Genus", func() (bool, api.Errno) { n, e := chart.Genus(m); return n == 0, e }},
		call{"Dual", func() (bool, api.Errno) { o, e := chart.Dual(m); return len(o.Points) == 0, e }},
		call{"Back", func() (bool, api.Errno) { o, e := chart.Back(m); return len(o.Points) == 0, e }},
		call{"Without", func() (bool, api.Errno) { o, e := chart.Without(m, line); return len(o.Points) == 0, e }},
		call{"Proper", func() (bool, api.Errno) { is, e := chart.Proper(m, colours); return !is, e }},
	)
}

// P9.1: the error of the map comes before all others; R2: nothing besides it.
func TestBadMapsFirst(t *testing.T) {
	for _, bad := range allBadMaps() {
		for _, line := range list(0, 1, 8, -1, math.MaxInt, math.MinInt) {
			for _, colours := range lists(nil, upTo(len(bad.m.Points)), list(-1), slices.Repeat(list(-1), 20)) {
				for _, c := range calls(bad.m, line, colours) {
					if zero, e := c.run(); !zero || e != bad.want {
						t.Errorf("%s: %s returns error %d, zero value %t, want %d", bad.name, c.name, e, zero, bad.want)
					}
				}
			}
		}
	}
}

// known is a map, and what is known of it. It has no colours if a line of it has both its ends at one point, and no odd
// ring if it has at most two colours.
type known struct {
	name              string
	m                 chart.Map
	tidy, faces, back [][]int
	parts, genus      int
	colours, odd      []int
}

func allKnown() []known {
	return []known{
		{"A", triangle(), lists(list(0, 5), list(1, 2), list(3, 4)), lists(list(0, 2, 4), list(1, 5, 3)),
			lists(list(0, 5), list(1, 2), list(3, 4)), 1, 0, list(0, 1, 2), list(0, 1, 2)},
		{"B", pair(), lists(list(0, 2), list(1, 3)), lists(list(0, 3), list(1, 2)), lists(list(0, 2), list(1, 3)), 1, 0, list(0, 1), nil},
		{"C", cross(), lists(list(0, 2, 1, 3)), lists(list(0, 3, 1, 2)), lists(list(0, 3, 1, 2)), 1, 1, nil, nil},
		{"D", loop(), lists(list(0, 1)), lists(list(0), list(1)), lists(list(0, 1)), 1, 0, nil, nil},
		{"no points", chart.Map{}, nil, nil, nil, 0, 0, nil, nil},
		{"a line", drawn(list(0), list(1)), lists(list(0), list(1)), lists(list(0, 1)), lists(list(0), list(1)), 1, 0, list(0, 1), nil},
		{"a line told backwards", drawn(list(1), list(0)), lists(list(0), list(1)), lists(list(0, 1)), lists(list(0), list(1)), 1, 0, list(0, 1), nil},
		{"two lines apart", drawn(list(3), list(2), list(1), list(0)), lists(list(0), list(1), list(2), list(3)), lists(list(0, 1), list(2, 3)),
			lists(list(0), list(1), list(2), list(3)), 2, 0, list(0, 1, 0, 1), nil},
		{"two loops side by side", drawn(list(3, 0, 1, 2)), lists(list(0, 1, 2, 3)), lists(list(0, 2), list(1), list(3)),
			lists(list(0, 3, 2, 1)), 1, 0, nil, nil},
		{"one loop in the other", drawn(list(2, 3, 1, 0)), lists(list(0, 2, 3, 1)), lists(list(0), list(1, 2), list(3)),
			lists(list(0, 1, 3, 2)), 1, 0, nil, nil},
		{"a loop and a line", drawn(list(2, 1, 0), list(3)), lists(list(0, 2, 1), list(3)), lists(list(0), list(1, 2, 3)),
			lists(list(0, 1, 2), list(3)), 1, 0, nil, nil},
		{"a loop, and a line apart", drawn(list(3), list(1, 0), list(2)), lists(list(0, 1), list(2), list(3)), lists(list(0), list(1), list(2, 3)),
			lists(list(0, 1), list(2), list(3)), 2, 0, nil, nil},
		{"a loop and a cross", drawn(list(0, 1), list(2, 4, 3, 5)), lists(list(0, 1), list(2, 4, 3, 5)), lists(list(0), list(1), list(2, 5, 3, 4)),
			lists(list(0, 1), list(2, 5, 3, 4)), 2, 1, nil, nil},
		{"three lines of two points, flat", drawn(list(0, 2, 4), list(5, 3, 1)), lists(list(0, 2, 4), list(1, 5, 3)),
			lists(list(0, 5), list(1, 2), list(3, 4)), lists(list(0, 4, 2), list(1, 3, 5)), 1, 0, list(0, 1), nil},
		{"three lines of two points, twisted", drawn(list(0, 2, 4), list(1, 3, 5)), lists(list(0, 2, 4), list(1, 3, 5)),
			lists(list(0, 3, 4, 1, 2, 5)), lists(list(0, 4, 2), list(1, 5, 3)), 1, 1, list(0, 1), nil},
		{"four points, flat", four(),
			lists(list(0, 2, 4), list(1, 8, 6), list(3, 7, 10), list(5, 11, 9)), lists(list(0, 8, 5), list(1, 2, 7), list(3, 4, 11), list(6, 10, 9)),
			lists(list(0, 4, 2), list(1, 6, 8), list(3, 10, 7), list(5, 9, 11)), 1, 0, list(0, 1, 2, 3), list(0, 1, 2)},
		{"four points, twisted", drawn(list(0, 2, 4), list(1, 6, 8), list(3, 10, 7), list(5, 9, 11)),
			lists(list(0, 2, 4), list(1, 6, 8), list(3, 10, 7), list(5, 9, 11)), lists(list(0, 6, 3, 4, 9, 1, 2, 10, 5), list(7, 8, 11)),
			lists(list(0, 4, 2), list(1, 8, 6), list(3, 7, 10), list(5, 11, 9)), 1, 1, list(0, 1, 2, 3), list(0, 1, 2)},
		{"a ring of five", drawn(list(9, 0), list(2, 1), list(3, 4), list(5, 6), list(8, 7)), lists(list(0, 9), list(1, 2), list(3, 4), list(5, 6), list(7, 8)),
			lists(list(0, 2, 4, 6, 8), list(1, 9, 7, 5, 3)), lists(list(0, 9), list(1, 2), list(3, 4), list(5, 6), list(7, 8)), 1, 0,
			list(0, 1, 0, 1, 2), list(0, 1, 2, 3, 4)},
		{"eight loops, one after the other", drawn(upTo(16)), lists(upTo(16)),
			lists(list(0, 2, 4, 6, 8, 10, 12, 14), list(1), list(3), list(5), list(7), list(9), list(11), list(13), list(15)),
			lists(list(0, 15, 14, 13, 12, 11, 10, 9, 8, 7, 6, 5, 4, 3, 2, 1)), 1, 0, nil, nil},
		{"four crosses of one point", drawn(list(0, 2, 1, 3, 4, 6, 5, 7, 8, 10, 9, 11, 12, 14, 13, 15)),
			lists(list(0, 2, 1, 3, 4, 6, 5, 7, 8, 10, 9, 11, 12, 14, 13, 15)), lists(list(0, 3, 1, 2, 4, 7, 5, 6, 8, 11, 9, 10, 12, 15, 13, 14)),
			lists(list(0, 15, 13, 14, 12, 11, 9, 10, 8, 7, 5, 6, 4, 3, 1, 2)), 1, 4, nil, nil},
	}
}

// P9.1 to P9.4: Tidy, Faces, Parts, Genus, Dual and Back.
func TestMaps(t *testing.T) {
	for _, x := range allKnown() {
		if m, e := chart.Tidy(x.m); !sameLists(m.Points, x.tidy) || e != api.OK {
			t.Errorf("%s: Tidy = %v, %d, want %v", x.name, m, e, x.tidy)
		}
		if l, e := chart.Faces(x.m); !sameLists(l, x.faces) || e != api.OK {
			t.Errorf("%s: Faces = %v, %d, want %v", x.name, l, e, x.faces)
		}
		if n, e := chart.Parts(x.m); n != x.parts || e != api.OK {
			t.Errorf("%s: Parts = %d, %d, want %d", x.name, n, e, x.parts)
		}
		if n, e := chart.Genus(x.m); n != x.genus || e != api.OK {
			t.Errorf("%s: Genus = %d, %d, want %d", x.name, n, e, x.genus)
		}
		if m, e := chart.Dual(x.m); !sameLists(m.Points, x.faces) || e != api.OK {
			t.Errorf("%s: Dual = %v, %d, want %v", x.name, m, e, x.faces)
		}
		if m, e := chart.Back(x.m); !sameLists(m.Points, x.back) || e != api.OK {
			t.Errorf("%s: Back = %v, %d, want %v", x.name, m, e, x.back)
		}
	}
}

// P9.5; R2: nothing besides an error.
func TestWithout(t *testing.T) {
	for _, x := range []struct {
		name string
		m    chart.Map
		line int
		want [][]int
		e    api.Errno
	}{
		{"A", triangle(), 0, lists(list(0), list(1, 2), list(3)), api.OK},
		{"A", triangle(), 1, lists(list(0, 3), list(1), list(2)), api.OK},
		{"A", triangle(), 2, lists(list(0), list(1, 2), list(3)), api.OK},
		{"A", triangle(), 3, nil, api.ErrNone},
		{"A", triangle(), 5, nil, api.ErrNone},
		{"A", triangle(), -1, nil, api.ErrNone},
		{"A", triangle(), math.MaxInt, nil, api.ErrNone},
		{"A", triangle(), math.MinInt, nil, api.ErrNone},
		{"C", cross(), 0, lists(list(0, 1)), api.OK},
		{"C", cross(), 1, lists(list(0, 1)), api.OK},
		{"C", cross(), 2, nil, api.ErrNone},
		{"D", loop(), 0, nil, api.OK},
		{"D", loop(), 1, nil, api.ErrNone},
		{"no points", chart.Map{}, 0, nil, api.ErrNone},
		{"two lines apart", drawn(list(3), list(2), list(1), list(0)), 0, lists(list(0), list(1)), api.OK},
		{"two lines apart", drawn(list(3), list(2), list(1), list(0)), 1, lists(list(0), list(1)), api.OK},
		{"a line and a loop", drawn(list(3), list(0, 2, 1)), 1, lists(list(0, 1)), api.OK},
		{"a line and a loop", drawn(list(3), list(0, 2, 1)), 0, lists(list(0), list(1)), api.OK},
		{"points told in another order", drawn(list(6, 4), list(2, 5, 0), list(7, 1), list(3)), 0, lists(list(0, 3), list(1), list(2, 4), list(5)), api.OK},
		{"points told in another order", drawn(list(6, 4), list(2, 5, 0), list(7, 1), list(3)), 2, lists(list(0, 2), list(1, 5), list(3), list(4)), api.OK},
		{"points told in another order", drawn(list(6, 4), list(2, 5, 0), list(7, 1), list(3)), 3, lists(list(0, 2, 5), list(1), list(3), list(4)), api.OK},
		{"eight lines", drawn(upTo(16)), 7, lists(upTo(14)), api.OK},
		{"eight lines", drawn(upTo(16)), 0, lists(upTo(14)), api.OK},
		{"eight lines", drawn(upTo(16)), 8, nil, api.ErrNone},
	} {
		if m, e := chart.Without(x.m, x.line); !sameLists(m.Points, x.want) || e != x.e {
			t.Errorf("%s: Without(%d) = %v, %d, want %v, %d", x.name, x.line, m, e, x.want, x.e)
		}
	}
}

// P9.6; R2: no true besides an error.
func TestProper(t *testing.T) {
	for _, x := range []struct {
		name    string
		m       chart.Map
		colours []int
		want    bool
		e       api.Errno
	}{
		{"A", triangle(), list(0, 1, 0), false, api.OK},
		{"A", triangle(), list(0, 0, 1), false, api.OK},
		{"A", triangle(), list(1, 0, 0), false, api.OK},
		{"A", triangle(), list(0, 5, 2), true, api.OK},
		{"A", triangle(), list(2, 1, 0), true, api.OK},
		{"A", triangle(), list(math.MaxInt, math.MaxInt-1, 0), true, api.OK},
		{"A", triangle(), list(math.MaxInt, 1, math.MaxInt), false, api.OK},
		{"A", triangle(), list(0, 1), false, api.ErrShape},
		{"A", triangle(), list(0, 1, 2, 3), false, api.ErrShape},
		{"A", triangle(), nil, false, api.ErrShape},
		{"A", triangle(), make([]int, 100000), false, api.ErrShape},
		{"A", triangle(), list(0, 1, -1), false, api.ErrRange},
		{"A", triangle(), list(-1, 0, 0), false, api.ErrRange},
		{"A", triangle(), list(0, math.MinInt, 2), false, api.ErrRange},
		{"A", triangle(), list(-1, 1), false, api.ErrShape},
		{"A", triangle(), list(-1, 1, 2, 3), false, api.ErrShape},
		{"B", pair(), list(0, 1), true, api.OK},
		{"B", pair(), list(7, 7), false, api.OK},
		{"C", cross(), list(0), false, api.OK},
		{"D", loop(), list(0), false, api.OK},
		{"D", loop(), list(-1), false, api.ErrRange},
		{"D", loop(), nil, false, api.ErrShape},
		{"no points", chart.Map{}, nil, true, api.OK},
		{"no points", chart.Map{}, list(), true, api.OK},
		{"no points", chart.Map{}, list(0), false, api.ErrShape},
		{"no points", chart.Map{}, list(-1), false, api.ErrShape},
		{"two lines apart", drawn(list(0), list(2), list(1), list(3)), list(0, 0, 1, 1), true, api.OK},
		{"two lines apart", drawn(list(0), list(2), list(1), list(3)), list(0, 1, 0, 2), false, api.OK},
		{"two lines apart", drawn(list(0), list(2), list(1), list(3)), list(0, 1, 2, 1), false, api.OK},
	} {
		if is, e := chart.Proper(x.m, x.colours); is != x.want || e != x.e {
			t.Errorf("%s: Proper(%v) = %t, %d, want %t, %d", x.name, x.colours, is, e, x.want, x.e)
		}
	}
}

// colourKnown are maps more whose colours are known.
func colourKnown() []known {
	return []known{
		{name: "a way of four points whose ends are told first", m: drawn(list(0), list(5), list(1, 2), list(3, 4)), colours: list(0, 1, 1, 0)},
		{name: "a ring of four and its middle", m: drawn(list(0, 7, 8), list(1, 2, 10), list(3, 4, 12), list(5, 6, 14), list(9, 11, 13, 15)),
			colours: list(0, 1, 0, 1, 2), odd: list(0, 1, 4)},
		{name: "the same, the middle told first", m: drawn(list(9, 11, 13, 15), list(0, 7, 8), list(5, 6, 14), list(3, 4, 12), list(1, 2, 10)),
			colours: list(0, 1, 2, 1, 2), odd: list(0, 1, 2)},
		{name: "a ring of three behind a way", m: drawn(list(0), list(1, 2), list(3, 4, 8), list(5, 6), list(7, 9)),
			colours: list(0, 1, 0, 1, 2), odd: list(2, 3, 4)},
		{name: "a ring of seven and a line", m: drawn(list(15), list(0, 13, 14), list(1, 2), list(3, 4), list(5, 6), list(7, 8), list(9, 10), list(11, 12)),
			colours: list(0, 1, 0, 1, 0, 1, 0, 2), odd: list(1, 2, 3, 4, 5, 6, 7)},
		{name: "a ring of five before one of three", m: drawn(list(0, 9), list(1, 2), list(3, 4), list(5, 6), list(7, 8), list(10, 15), list(11, 12), list(13, 14)),
			colours: list(0, 1, 0, 1, 2, 0, 1, 2), odd: list(5, 6, 7)},
		{name: "a ring of eight", m: drawn(list(0, 15), list(3, 4), list(1, 2), list(5, 6), list(9, 10), list(7, 8), list(11, 12), list(13, 14)),
			colours: list(0, 0, 1, 1, 1, 0, 0, 1)},
		{name: "all joined but two of five", m: drawn(list(0, 2, 4), list(1, 6, 8), list(3, 7, 10, 12), list(5, 9, 11, 14), list(13, 15)),
			colours: list(0, 1, 2, 3, 0), odd: list(0, 1, 2)},
		{name: "four that are joined, behind others", m: drawn(list(12), list(14), list(15), list(13), list(0, 2, 4), list(1, 6, 8), list(3, 7, 10), list(5, 9, 11)),
			colours: list(0, 0, 1, 1, 0, 1, 2, 3), odd: list(4, 5, 6)},
		{name: "16 points", m: chart.Map{Points: slices.Collect(slices.Chunk(upTo(16), 1))},
			colours: list(0, 1, 0, 1, 0, 1, 0, 1, 0, 1, 0, 1, 0, 1, 0, 1)},
		{name: "eight lines of two points", m: drawn(list(0, 3, 5, 6, 9, 10, 13, 15), list(1, 2, 4, 7, 8, 11, 12, 14)), colours: list(0, 1)},
		{name: "a loop at the end", m: drawn(list(0), list(1), list(2), list(3), list(14, 15), list(4, 7, 9), list(5, 6, 8), list(10, 12), list(11, 13))},
	}
}

// P9.7, P9.8; R2: nothing besides an error.
func TestColours(t *testing.T) {
	for _, x := range append(allKnown(), colourKnown()...) {
		fewest, wantError, oddError := 0, api.OK, api.OK
		switch {
		case len(x.colours) > 0:
			fewest = slices.Max(x.colours) + 1
		case len(x.m.Points) > 0:
			wantError, oddError = api.ErrLost, api.ErrLost
		}
		if wantError == api.OK && fewest <= 2 {
			oddError = api.ErrClash
		}
		if n, e := chart.Fewest(x.m); n != fewest || e != wantError {
			t.Errorf("%s: Fewest = %d, %d, want %d, %d", x.name, n, e, fewest, wantError)
		}
		if l, e := chart.Colour(x.m); !slices.Equal(l, x.colours) || e != wantError {
			t.Errorf("%s: Colour = %v, %d, want %v, %d", x.name, l, e, x.colours, wantError)
		}
		if l, e := chart.Odd(x.m); !slices.Equal(l, x.odd) || e != oddError {
			t.Errorf("%s: Odd = %v, %d, want %v, %d", x.name, l, e, x.odd, oddError)
		}
	}
}

// withSpare returns a copy of a list with an element behind its end, which must not be written to either.
func withSpare(numbers []int) []int { return append(slices.Clone(numbers), -7)[:len(numbers)] }

// overwrite writes to all memory of a list, also behind its end.
func overwrite(numbers []int) {
	numbers = numbers[:cap(numbers)]
	for i := range numbers {
		numbers[i] = -99
	}
}

// overwriteAll does so with each list, after which those behind it still have to be what they were, and with the list of
// lists.
func overwriteAll(t *testing.T, all, want [][]int) {
	t.Helper()
	for i := range all {
		if !sameLists(all[i:], want[i:]) {
			t.Fatalf("%v after other results were overwritten, want %v", all[i:], want[i:])
		}
		overwrite(all[i])
	}
	all = all[:cap(all)]
	for i := range all {
		all[i] = nil
	}
}

// R4: arguments stay as they were, and results share no memory with them or with one another.
func TestOwnMemory(t *testing.T) {
	m, colours := drawn(), withSpare(list(0, 1, 2))
	for _, point := range triangle().Points {
		m.Points = append(m.Points, withSpare(point))
	}
	m.Points = append(m.Points, list(-7))[:3]
	for range 2 {
		tidy, _ := chart.Tidy(m)
		faces, _ := chart.Faces(m)
		dual, _ := chart.Dual(m)
		back, _ := chart.Back(m)
		less, _ := chart.Without(m, 2)
		overwriteAll(t, tidy.Points, triangle().Points)
		overwriteAll(t, faces, lists(list(0, 2, 4), list(1, 5, 3)))
		overwriteAll(t, dual.Points, lists(list(0, 2, 4), list(1, 5, 3)))
		overwriteAll(t, back.Points, triangle().Points)
		overwriteAll(t, less.Points, lists(list(0), list(1, 2), list(3)))
		first, _ := chart.Colour(m)
		odd, _ := chart.Odd(m)
		overwriteAll(t, lists(first, odd), lists(list(0, 1, 2), list(0, 1, 2)))
		for _, c := range calls(m, 1, colours) {
			c.run()
		}
		chart.Check(m)
	}
	if !slices.Equal(colours[:4], list(0, 1, 2, -7)) {
		t.Errorf("the colours were changed: %v", colours[:4])
	}
	for i, want := range lists(list(0, 5, -7), list(1, 2, -7), list(3, 4, -7), list(-7)) {
		if got := m.Points[:4][i][:len(want)]; !slices.Equal(got, want) {
			t.Errorf("point %d was changed: %v, want %v", i, got, want)
		}
	}
}

// answers calls all functions and returns all numbers that they return.
func answers(m chart.Map, line int, colours []int) []int {
	all := list(int(chart.Check(m)))
	add := func(numbers []int, e api.Errno) { all = append(append(append(all, len(numbers)), numbers...), int(e)) }
	addAll := func(points [][]int, e api.Errno) {
		for _, point := range points {
			add(point, e)
		}
		add(list(len(points)), e)
	}
	tidy, e := chart.Tidy(m)
	addAll(tidy.Points, e)
	addAll(chart.Faces(m))
	dual, e := chart.Dual(m)
	addAll(dual.Points, e)
	back, e := chart.Back(m)
	addAll(back.Points, e)
	less, e := chart.Without(m, line)
	addAll(less.Points, e)
	parts, e := chart.Parts(m)
	genus, f := chart.Genus(m)
	fewest, g := chart.Fewest(m)
	add(list(parts, int(e), genus, int(f), fewest), g)
	add(chart.Colour(m))
	add(chart.Odd(m))
	if is, e := chart.Proper(m, colours); is {
		add(list(1), e)
	} else {
		add(list(0), e)
	}
	return all
}

func copyOf(m chart.Map) chart.Map {
	var copied chart.Map
	for _, point := range m.Points {
		copied.Points = append(copied.Points, slices.Clone(point))
	}
	return copied
}

// P1: every function returns for all arguments, and the same for equal ones; R3: nil is a list without elements.
func TestAllArguments(t *testing.T) {
	var some []chart.Map
	for _, bad := range allBadMaps() {
		some = append(some, bad.m)
	}
	for _, x := range append(allKnown(), colourKnown()...) {
		some = append(some, x.m)
	}
	for _, m := range some {
		for _, line := range list(0, 1, 7, 8, -1, math.MaxInt, math.MinInt) {
			for _, colours := range lists(nil, list(), list(0), list(0, 1, 0), list(0, 1, 2, -1), upTo(len(m.Points)), make([]int, 100000), list(math.MinInt, math.MaxInt)) {
				got := answers(m, line, colours)
				again := answers(copyOf(m), line, slices.Clone(colours))
				if !slices.Equal(got, again) {
					t.Fatalf("%v, %d, %v: %v, then %v", m, line, colours, got, again)
				}
			}
		}
		if got, want := answers(m, 0, nil), answers(m, 0, list()); !slices.Equal(got, want) {
			t.Errorf("%v: %v with nil, %v with a list without elements", m, got, want)
		}
	}
	for _, x := range []struct{ a, b chart.Map }{{chart.Map{}, chart.Map{Points: lists()}}, {drawn(nil), drawn(list())}, {drawn(list(0, 1), nil), drawn(list(0, 1), list())}} {
		if got, want := answers(x.a, 0, nil), answers(x.b, 0, nil); !slices.Equal(got, want) {
			t.Errorf("%v: %v with nil, %v with lists without elements", x.a, got, want)
		}
	}
}
