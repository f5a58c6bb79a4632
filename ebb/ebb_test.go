package ebb_test

import (
	"math"
	"slices"
	"testing"

	"bellarmine/api"
	"bellarmine/ebb"
)

func shore(rows, columns int, heights ...int) ebb.Shore {
	return ebb.Shore{Rows: rows, Columns: columns, Heights: heights}
}

func list(numbers ...int) []int { return numbers }

// hollow and row are S and T of the chapter's examples.
func hollow() ebb.Shore { return shore(3, 3, 5, 5, 5, 5, 2, 5, 5, 4, 5) }

func row() ebb.Shore { return shore(4, 1, 9, 3, 6, 1) }

// twins has two pools, at 0 and 2, as long as the river is below 4.
func twins() ebb.Shore { return shore(2, 3, 1, 9, 2, 4, 9, 5) }

func sameLists(a, b [][]int) bool { return slices.EqualFunc(a, b, slices.Equal[[]int]) }

type badShore struct {
	name  string
	shore ebb.Shore
	want  api.Errno
}

func badShores() []badShore {
	return []badShore{
		{"no shore", ebb.Shore{}, api.ErrRange},
		{"no rows", shore(0, 1), api.ErrRange},
		{"no columns", shore(1, 0), api.ErrRange},
		{"rows below 0, with as many heights as their product", shore(-1, -1, 5), api.ErrRange},
		{"7 rows", shore(7, 1, 0, 0, 0, 0, 0, 0, 0), api.ErrRange},
		{"7 columns", shore(1, 7, 0, 0, 0, 0, 0, 0, 0), api.ErrRange},
		{"as many rows as an int can tell", shore(math.MaxInt, math.MaxInt, 0), api.ErrRange},
		{"a product that overflows to 0", shore(1<<62, 4), api.ErrRange},
		{"bad columns before a bad list", shore(1, math.MinInt), api.ErrRange},
		{"too few heights", shore(1, 2, 5), api.ErrShape},
		{"no heights", shore(6, 6), api.ErrShape},
		{"too many heights", shore(1, 1, 5, 5), api.ErrShape},
		{"a wrong number of heights before a wrong height", shore(1, 1, 31, 5), api.ErrShape},
		{"a height of 31", shore(1, 1, 31), api.ErrRange},
		{"a height below 0, the last one", shore(2, 2, 0, 30, 0, -1), api.ErrRange},
		{"heights at the ends of int", shore(1, 2, math.MinInt, math.MaxInt), api.ErrRange},
	}
}

// P1.1.
func TestCheck(t *testing.T) {
	for _, good := range []ebb.Shore{hollow(), row(), shore(1, 1, 0), shore(1, 1, 30), {Rows: 6, Columns: 6, Heights: make([]int, 36)}} {
		if e := ebb.Check(good); e != api.OK {
			t.Errorf("Check(%v) = %d, want OK", good, e)
		}
	}
	for _, bad := range badShores() {
		if e := ebb.Check(bad.shore); e != bad.want {
			t.Errorf("%s: Check = %d, want %d", bad.name, e, bad.want)
		}
	}
}

// P1.1: the error of the shore comes before the errors of all other arguments; R2: nothing besides it.
func TestBadShoreFirst(t *testing.T) {
	waters := make([]int, ebb.MaxHours+1)
	for _, bad := range badShores() {
		for _, x := range []struct {
			call string
			run  func() (bool, api.Errno)
		}{
			{"Sills", func() (bool, api.Errno) { l, e := ebb.Sills(bad.shore); return len(l) == 0, e }},
			{"Depths", func() (bool, api.Errno) { l, e := ebb.Depths(bad.shore, -1); return len(l) == 0, e }},
			{"Bare", func() (bool, api.Errno) { l, e := ebb.Bare(bad.shore, 31); return len(l) == 0, e }},
			{"Pools", func() (bool, api.Errno) { l, e := ebb.Pools(bad.shore, -1); return len(l) == 0, e }},
			{"Hour", func() (bool, api.Errno) { n, e := ebb.Hour(bad.shore, waters, -1); return n == 0, e }},
			{"Way", func() (bool, api.Errno) { l, e := ebb.Way(bad.shore, -1); return len(l) == 0, e }},
			{"Basin", func() (bool, api.Errno) { l, e := ebb.Basin(bad.shore, 99); return len(l) == 0, e }},
			{"Proves", func() (bool, api.Errno) { return true, ebb.Proves(bad.shore, list(-1), -1) }},
			{"Between", func() (bool, api.Errno) { n, e := ebb.Between(bad.shore, -1, 99); return n == 0, e }},
			{"Tree", func() (bool, api.Errno) { l, e := ebb.Tree(bad.shore); return len(l) == 0, e }},
		} {
			if zero, e := x.run(); !zero || e != bad.want {
				t.Errorf("%s: %s returns error %d, zero value %t, want %d", bad.name, x.call, e, zero, bad.want)
			}
		}
	}
}

// P1.2.
func TestSills(t *testing.T) {
	for _, x := range []struct {
		shore ebb.Shore
		want  []int
	}{
		{hollow(), list(5, 5, 5, 5, 4, 5, 5, 4, 5)},
		{row(), list(9, 6, 6, 1)},
		{twins(), list(4, 9, 5, 4, 9, 5)},
		{shore(1, 1, 7), list(7)},
		{shore(1, 3, 30, 0, 30), list(30, 0, 30)},
		{shore(3, 3, 1, 1, 1, 1, 9, 9, 1, 9, 9), list(1, 1, 1, 1, 9, 9, 1, 9, 9)},
		// The only low way from 0 turns four times, upwards too.
		{shore(4, 3, 0, 9, 9, 1, 9, 9, 2, 3, 4, 9, 9, 5), list(5, 9, 9, 5, 9, 9, 5, 5, 5, 9, 9, 5)},
		{shore(3, 5, 2, 9, 1, 1, 1, 2, 9, 1, 9, 1, 2, 2, 2, 9, 0), list(2, 9, 1, 1, 1, 2, 9, 1, 9, 1, 2, 2, 2, 9, 0)},
	} {
		if got, e := ebb.Sills(x.shore); !slices.Equal(got, x.want) || e != api.OK {
			t.Errorf("Sills(%v) = %v, %d, want %v", x.shore, got, e, x.want)
		}
	}
}

// P1.2.
func TestDepthsAndBare(t *testing.T) {
	for _, x := range []struct {
		shore  ebb.Shore
		water  int
		depths []int
		bare   []int
	}{
		{hollow(), 0, list(0, 0, 0, 0, 2, 0, 0, 0, 0), list(0, 1, 2, 3, 5, 6, 7, 8)},
		{hollow(), 5, list(0, 0, 0, 0, 3, 0, 0, 1, 0), list(0, 1, 2, 3, 5, 6, 8)},
		{hollow(), 6, list(1, 1, 1, 1, 4, 1, 1, 2, 1), nil},
		{row(), 0, list(0, 3, 0, 0), list(0, 2, 3)},
		{row(), 2, list(0, 3, 0, 1), list(0, 2)},
		{row(), 9, list(0, 6, 3, 8), list(0)},
		{shore(1, 1, 0), 30, list(30), nil},
		{shore(1, 1, 30), 30, list(0), list(0)},
	} {
		depths, e := ebb.Depths(x.shore, x.water)
		if !slices.Equal(depths, x.depths) || e != api.OK {
			t.Errorf("Depths(%v, %d) = %v, %d, want %v", x.shore, x.water, depths, e, x.depths)
		}
		bare, e := ebb.Bare(x.shore, x.water)
		if !slices.Equal(bare, x.bare) || e != api.OK {
			t.Errorf("Bare(%v, %d) = %v, %d, want %v", x.shore, x.water, bare, e, x.bare)
		}
	}
}

// P1.2, P1.3.
func TestWaterOutOfRange(t *testing.T) {
	for _, water := range list(-1, ebb.MaxHeight+1, math.MinInt, math.MaxInt) {
		if got, e := ebb.Depths(hollow(), water); len(got) > 0 || e != api.ErrRange {
			t.Errorf("Depths at %d = %v, %d, want ErrRange", water, got, e)
		}
		if got, e := ebb.Bare(hollow(), water); len(got) > 0 || e != api.ErrRange {
			t.Errorf("Bare at %d = %v, %d, want ErrRange", water, got, e)
		}
		if got, e := ebb.Pools(hollow(), water); len(got) > 0 || e != api.ErrRange {
			t.Errorf("Pools at %d = %v, %d, want ErrRange", water, got, e)
		}
	}
}

// P1.3.
func TestPools(t *testing.T) {
	for _, x := range []struct {
		shore ebb.Shore
		water int
		want  [][]int
	}{
		{hollow(), 0, [][]int{{4}}},
		{hollow(), 3, [][]int{{4}}},
		{hollow(), 4, nil},
		{row(), 2, [][]int{{1}}},
		{twins(), 0, [][]int{{0}, {2}}},
		{twins(), 4, [][]int{{2}}},
		{twins(), 5, nil},
		// A pool around a hill that is not in it, and a hollow in the hill that is a pool of its own.
		{shore(6, 5,
			20, 20, 20, 20, 20,
			20, 1, 1, 1, 20,
			20, 1, 25, 1, 20,
			20, 1, 25, 25, 25,
			20, 9, 25, 3, 25,
			20, 19, 25, 24, 25), 0, [][]int{{6, 7, 8, 11, 13, 16, 21}, {23}}},
		// Places that touch only at a corner are not neighbours.
		{shore(3, 3, 1, 9, 9, 9, 1, 9, 9, 9, 9), 0, [][]int{{0}, {4}}},
		// The last place of a row and the first one of the next row are not neighbours.
		{shore(3, 2, 9, 1, 1, 9, 9, 9), 0, [][]int{{1}, {2}}},
		{shore(1, 3, 1, 0, 1), 0, nil},
	} {
		if got, e := ebb.Pools(x.shore, x.water); !sameLists(got, x.want) || e != api.OK {
			t.Errorf("Pools(%v, %d) = %v, %d, want %v", x.shore, x.water, got, e, x.want)
		}
	}
}

// P1.3.
func TestHour(t *testing.T) {
	many := make([]int, ebb.MaxHours)
	for _, x := range []struct {
		name   string
		shore  ebb.Shore
		waters []int
		place  int
		want   int
		e      api.Errno
	}{
		{"third hour", hollow(), list(6, 5, 4, 3), 7, 2, api.OK},
		{"second hour", hollow(), list(6, 5, 4, 3), 0, 1, api.OK},
		{"under a pool", hollow(), list(6, 5, 4, 3), 4, 0, api.ErrLost},
		{"behind the last place", hollow(), list(6, 5, 4, 3), 9, 0, api.ErrNone},
		{"before the first place", hollow(), list(6, 5, 4, 3), -1, 0, api.ErrNone},
		{"far from all places", hollow(), nil, math.MaxInt, 0, api.ErrNone},
		{"waters that rise and fall", row(), list(9, 2, 1, 8, 0), 3, 2, api.OK},
		{"the first hour of several", row(), list(0, 0), 3, 0, api.OK},
		{"no hours", hollow(), nil, 0, 0, api.ErrLost},
		{"24 hours", hollow(), many, 0, 0, api.OK},
		{"the last of 24 hours", row(), append(slices.Repeat(list(30), 23), 0), 3, 23, api.OK},
		{"25 hours before all others", hollow(), append(slices.Clone(many), 31), -1, 0, api.ErrMany},
		{"a level of 31 before no place", hollow(), list(0, 31), 9, 0, api.ErrRange},
		{"a level below 0 after an hour at which the place is bare", hollow(), list(0, -1), 0, 0, api.ErrRange},
	} {
		if got, e := ebb.Hour(x.shore, x.waters, x.place); got != x.want || e != x.e {
			t.Errorf("%s: Hour = %d, %d, want %d, %d", x.name, got, e, x.want, x.e)
		}
	}
}

// P1.4.
func TestWay(t *testing.T) {
	for _, x := range []struct {
		name  string
		shore ebb.Shore
		place int
		want  []int
	}{
		{"out of the hollow", hollow(), 4, list(4, 7)},
		{"of equals the first", hollow(), 0, list(0, 3, 6)},
		{"a place of the last row", hollow(), 7, list(7)},
		{"one column", row(), 1, list(1, 2, 3)},
		{"one row", shore(1, 3, 0, 9, 0), 1, list(1)},
		{"the shortest, though a longer one is lower on its way", shore(3, 3, 5, 1, 1, 5, 9, 1, 5, 9, 1), 0, list(0, 3, 6)},
		{"the lowest, though another one is shorter", shore(3, 3, 1, 1, 1, 9, 9, 1, 9, 9, 0), 0, list(0, 1, 2, 5, 8)},
		{"upwards", shore(3, 3, 1, 1, 1, 1, 9, 1, 9, 9, 1), 3, list(3, 0, 1, 2, 5, 8)},
		{"straight down", shore(3, 2, 1, 1, 1, 1, 1, 1), 1, list(1, 3, 5)},
		{"as short to the left and to the right", shore(3, 3, 4, 4, 4, 4, 9, 4, 4, 9, 4), 1, list(1, 0, 3, 6)},
	} {
		if got, e := ebb.Way(x.shore, x.place); !slices.Equal(got, x.want) || e != api.OK {
			t.Errorf("%s: Way = %v, %d, want %v", x.name, got, e, x.want)
		}
	}
}

// P1.5.
func TestBasin(t *testing.T) {
	for _, x := range []struct {
		shore ebb.Shore
		place int
		want  []int
	}{
		{hollow(), 4, list(4)},
		{hollow(), 7, nil},
		{hollow(), 0, nil},
		{row(), 1, list(1)},
		{row(), 2, nil},
		{twins(), 0, list(0)},
		{shore(2, 2, 0, 3, 9, 9), 0, list(0, 1)},
		// From 0 the place 2 is reached over 1, which is lower than the sill 8, though 1 is higher than 0 and 2.
		{shore(2, 4, 1, 7, 2, 8, 8, 9, 9, 9), 2, list(0, 1, 2)},
	} {
		if got, e := ebb.Basin(x.shore, x.place); !slices.Equal(got, x.want) || e != api.OK {
			t.Errorf("Basin(%v, %d) = %v, %d, want %v", x.shore, x.place, got, e, x.want)
		}
	}
}

// P1.4, P1.5.
func TestNoSuchPlace(t *testing.T) {
	for _, place := range list(-1, 9, 10, math.MinInt, math.MaxInt) {
		if got, e := ebb.Way(hollow(), place); len(got) > 0 || e != api.ErrNone {
			t.Errorf("Way of %d = %v, %d, want ErrNone", place, got, e)
		}
		if got, e := ebb.Basin(hollow(), place); len(got) > 0 || e != api.ErrNone {
			t.Errorf("Basin of %d = %v, %d, want ErrNone", place, got, e)
		}
	}
}

// P1.5.
func TestProves(t *testing.T) {
	for _, x := range []struct {
		name   string
		shore  ebb.Shore
		places []int
		height int
		want   api.Errno
	}{
		{"the hollow", hollow(), list(4), 4, api.OK},
		{"the hollow, too high", hollow(), list(4), 5, api.ErrProof},
		{"a place of the last row", hollow(), list(7), 1, api.ErrProof},
		{"a place of the last row for 0", hollow(), list(7), 0, api.ErrProof},
		{"a place told twice", hollow(), list(4, 4), 4, api.ErrOrder},
		{"places that descend", hollow(), list(4, 3), 4, api.ErrOrder},
		{"no places", hollow(), nil, 30, api.OK},
		{"no places, too high", hollow(), nil, 31, api.ErrRange},
		{"a number that is no place, and does not ascend", hollow(), list(4, -1), 4, api.ErrNone},
		{"the river", hollow(), list(4, 9), 4, api.ErrNone},
		{"the order before a later number that is no place", hollow(), list(4, 4, 9), 4, api.ErrOrder},
		{"a number that is no place before a later order", hollow(), list(9, 4, 4), 4, api.ErrNone},
		{"places before the height", hollow(), list(4, 4), 31, api.ErrOrder},
		{"the height before the proof", hollow(), list(7), -1, api.ErrRange},
		{"a height of 31", hollow(), list(4), 31, api.ErrRange},
		{"members may be lower than the height", shore(2, 2, 0, 3, 9, 9), list(0, 1), 9, api.OK},
		{"neighbours may not", shore(2, 2, 0, 3, 9, 9), list(0), 9, api.ErrProof},
		{"neighbours as high as the height", shore(2, 2, 0, 3, 9, 9), list(0), 3, api.OK},
		{"members may be high, and lie apart", shore(2, 3, 9, 5, 9, 5, 5, 5), list(0, 2), 5, api.OK},
		{"more places than are needed", hollow(), list(0, 1, 2, 3, 4, 5), 4, api.OK},
		{"one of them leaks", hollow(), list(0, 1, 2, 3, 4, 5), 5, api.ErrProof},
	} {
		if e := ebb.Proves(x.shore, x.places, x.height); e != x.want {
			t.Errorf("%s: Proves = %d, want %d", x.name, e, x.want)
		}
	}
}

// P1.6.
func TestBetween(t *testing.T) {
	for _, x := range []struct {
		name  string
		shore ebb.Shore
		a, b  int
		want  int
		e     api.Errno
	}{
		{"out of the hollow", hollow(), 4, 7, 4, api.OK},
		{"to the wall", hollow(), 4, 0, 5, api.OK},
		{"a place and itself", hollow(), 4, 4, 2, api.OK},
		{"to the river", hollow(), 4, 9, 4, api.OK},
		{"from the river", hollow(), 9, 4, 4, api.OK},
		{"the river and itself", hollow(), 9, 9, 0, api.OK},
		{"through the river", shore(1, 3, 4, 30, 5), 0, 2, 5, api.OK},
		{"through the river, past places of two rows", shore(2, 3, 1, 30, 2, 6, 30, 3), 0, 2, 6, api.OK},
		{"not through the river", shore(2, 3, 1, 2, 1, 9, 9, 9), 0, 2, 2, api.OK},
		{"the first is neither", hollow(), -1, 4, 0, api.ErrNone},
		{"the second is neither", hollow(), 4, 10, 0, api.ErrNone},
		{"none of them is", hollow(), math.MinInt, math.MaxInt, 0, api.ErrNone},
	} {
		if got, e := ebb.Between(x.shore, x.a, x.b); got != x.want || e != x.e {
			t.Errorf("%s: Between = %d, %d, want %d, %d", x.name, got, e, x.want, x.e)
		}
	}
}

// P1.7.
func TestTree(t *testing.T) {
	for _, x := range []struct {
		shore ebb.Shore
		want  [][2]int
	}{
		{hollow(), [][2]int{{4, 7}, {7, 9}, {0, 1}, {0, 3}, {1, 2}, {1, 4}, {2, 5}, {3, 6}, {5, 8}}},
		{row(), [][2]int{{3, 4}, {1, 2}, {2, 3}, {0, 1}}},
		{shore(1, 1, 7), [][2]int{{0, 1}}},
		{shore(1, 3, 4, 0, 9), [][2]int{{1, 3}, {0, 1}, {1, 2}}},
		{shore(2, 2, 0, 0, 0, 0), [][2]int{{0, 1}, {0, 2}, {1, 3}, {2, 4}}},
	} {
		if got, e := ebb.Tree(x.shore); !slices.Equal(got, x.want) || e != api.OK {
			t.Errorf("Tree(%v) = %v, %d, want %v", x.shore, got, e, x.want)
		}
	}
}
