package ebb_test

import (
	"math"
	"slices"
	"testing"

	"bellarmine/api"
	"bellarmine/ebb"
)

// eachAnyShore visits shores of all sizes, with few and with many different heights.
func eachAnyShore(visit func(s ebb.Shore)) {
	for rows := 1; rows <= ebb.MaxSide; rows++ {
		for columns := 1; columns <= ebb.MaxSide; columns++ {
			for number, below := range []int{1, 2, 3, 5, 8, 13, 31} {
				visit(mixed(100*number+10*rows+columns, rows, columns, below))
			}
		}
	}
	visit(spiral())
}

// spiral is a shore with the longest ways: a ditch of 1 that turns inwards, between walls of 30.
func spiral() ebb.Shore {
	return shore(6, 6,
		30, 30, 30, 30, 30, 30,
		1, 1, 1, 1, 1, 30,
		1, 30, 30, 30, 1, 30,
		1, 30, 0, 30, 1, 30,
		1, 30, 1, 1, 1, 30,
		1, 30, 30, 30, 30, 30)
}

func TestSpiral(t *testing.T) {
	want := list(20, 26, 27, 28, 22, 16, 10, 9, 8, 7, 6, 12, 18, 24, 30)
	if way, e := ebb.Way(spiral(), 20); e != api.OK || !slices.Equal(way, want) {
		t.Errorf("Way = %v, %d, want %v", way, e, want)
	}
	if basin, e := ebb.Basin(spiral(), 20); e != api.OK || !slices.Equal(basin, list(20)) {
		t.Errorf("Basin = %v, %d, want 20", basin, e)
	}
}

// P1.8: a tree connects all places and the river, and the way in it tells Between.
func TestTreeTellsBetween(t *testing.T) {
	eachAnyShore(func(s ebb.Shore) {
		tree, _ := ebb.Tree(s)
		sills, _ := ebb.Sills(s)
		river := len(s.Heights)
		if len(tree) != river || len(connected(tree, river)) != river+1 {
			t.Fatalf("Tree(%v) = %v does not connect all", s, tree)
		}
		for _, j := range tree {
			if j[0] >= j[1] || !joined(s, j[0], j[1]) {
				t.Fatalf("Tree(%v): %v is no joint", s, j)
			}
		}
		for a := range river + 1 {
			highest := highestInTree(s, tree, a)
			for b := range river + 1 {
				between, e := ebb.Between(s, a, b)
				if a != b && (between != highest[b] || e != api.OK) {
					t.Fatalf("Between(%v, %d, %d) = %d, %d, in the tree %d", s, a, b, between, e, highest[b])
				}
				if b == river && a != b && between != sills[a] {
					t.Fatalf("Between(%v, %d, %d) = %d, the sill is %d", s, a, b, between, sills[a])
				}
			}
		}
	})
}

// highestInTree returns for each node how high the highest joint between it and a node is.
func highestInTree(s ebb.Shore, tree [][2]int, from int) map[int]int {
	highest := map[int]int{from: 0}
	for len(highest) <= len(tree) {
		for _, j := range tree {
			a, knownA := highest[j[0]]
			b, knownB := highest[j[1]]
			if knownA && !knownB {
				highest[j[1]] = max(a, jointHeight(s, j))
			}
			if knownB && !knownA {
				highest[j[0]] = max(b, jointHeight(s, j))
			}
		}
	}
	return highest
}

// P1.8, M3: no other joints that connect all are less high together.
func TestTreeIsLowest(t *testing.T) {
	try := func(s ebb.Shore) {
		tree, _ := ebb.Tree(s)
		joints := allJoints(s)
		lowest := math.MaxInt
		for set := range 1 << len(joints) {
			var chosen [][2]int
			for i, j := range joints {
				if set>>i&1 == 1 {
					chosen = append(chosen, j)
				}
			}
			if len(connected(chosen, 0)) == len(s.Heights)+1 {
				lowest = min(lowest, sumOfHeights(s, chosen))
			}
		}
		if got := sumOfHeights(s, tree); got != lowest {
			t.Fatalf("Tree(%v) = %v is %d high together, others are %d", s, tree, got, lowest)
		}
	}
	eachShore(2, 2, 3, try)
	for number := range 20 {
		try(mixed(number, 2, 3, 5))
		try(mixed(number, 3, 2, 31))
		try(mixed(number, 1, 4, 31))
	}
}

func sumOfHeights(s ebb.Shore, joints [][2]int) int {
	sum := 0
	for _, j := range joints {
		sum += jointHeight(s, j)
	}
	return sum
}

// P1.9, M4: Basin proves the sill of its place, and nothing higher.
func TestBasinProves(t *testing.T) {
	eachAnyShore(func(s ebb.Shore) {
		sills, _ := ebb.Sills(s)
		for p, sill := range sills {
			basin, _ := ebb.Basin(s, p)
			if e := ebb.Proves(s, basin, sill); e != api.OK {
				t.Fatalf("Proves(%v, %v, %d) = %d, want OK", s, basin, sill, e)
			}
			if slices.Contains(basin, p) != (s.Heights[p] < sill) {
				t.Fatalf("Basin(%v, %d) = %v, the sill is %d", s, p, basin, sill)
			}
			if len(basin) > 0 && sill < ebb.MaxHeight && ebb.Proves(s, basin, sill+1) != api.ErrProof {
				t.Fatalf("Proves(%v, %v, %d) is OK, the sill of %d is %d", s, basin, sill+1, p, sill)
			}
			for _, member := range basin {
				if sills[member] != sill {
					t.Fatalf("Basin(%v, %d) = %v: %d has the sill %d, not %d", s, p, basin, member, sills[member], sill)
				}
			}
		}
	})
}

// P1.4: ways of any shore are ways, to the river, and as high as the sill.
func TestWaysAreWays(t *testing.T) {
	eachAnyShore(func(s ebb.Shore) {
		sills, _ := ebb.Sills(s)
		for p, sill := range sills {
			way, e := ebb.Way(s, p)
			if e != api.OK || len(way) == 0 || way[0] != p || heightOfWay(s, way) != sill {
				t.Fatalf("Way(%v, %d) = %v, %d, the sill is %d", s, p, way, e, sill)
			}
			for i, q := range way {
				if slices.Contains(way[:i], q) || i > 0 && !beside(s, way[i-1], q) {
					t.Fatalf("Way(%v, %d) = %v is no way", s, p, way)
				}
				if inLastRow(s, q) != (i == len(way)-1) {
					t.Fatalf("Way(%v, %d) = %v does not end where it comes to the last row", s, p, way)
				}
			}
		}
	})
}

// P1.10, M1.
func TestPoolsAreWhole(t *testing.T) {
	eachAnyShore(func(s ebb.Shore) {
		sills, _ := ebb.Sills(s)
		for water := 0; water <= ebb.MaxHeight; water++ {
			depths, _ := ebb.Depths(s, water)
			bare, _ := ebb.Bare(s, water)
			for p, height := range s.Heights {
				if slices.Contains(bare, p) != (height == sills[p] && height >= water) {
					t.Fatalf("Bare(%v, %d) = %v is wrong about %d", s, water, bare, p)
				}
			}
			checkPools(t, s, sills, depths, water)
		}
	})
}

func checkPools(t *testing.T, s ebb.Shore, sills, depths []int, water int) {
	t.Helper()
	pools, _ := ebb.Pools(s, water)
	owner := map[int]int{}
	for i, pool := range pools {
		if !slices.IsSorted(pool) || i > 0 && pools[i-1][0] >= pool[0] {
			t.Fatalf("Pools(%v, %d) = %v are not in order", s, water, pools)
		}
		for _, p := range pool {
			if _, twice := owner[p]; twice || sills[p] != sills[pool[0]] {
				t.Fatalf("Pools(%v, %d) = %v: %d is in two of them, or not as high as its pool", s, water, pools, p)
			}
			owner[p] = i
		}
	}
	for p := range s.Heights {
		if _, in := owner[p]; in != (sills[p] > water && depths[p] > 0) {
			t.Fatalf("Pools(%v, %d) = %v are wrong about %d", s, water, pools, p)
		}
		for q := range p {
			one, in := owner[p]
			other, also := owner[q]
			if in && also && beside(s, p, q) && one != other {
				t.Fatalf("Pools(%v, %d) = %v: %d and %d are neighbours", s, water, pools, q, p)
			}
		}
	}
}

// P1.11, M7: the river falls farther.
func TestLowerRiver(t *testing.T) {
	eachAnyShore(func(s ebb.Shore) {
		above, _ := ebb.Depths(s, ebb.MaxHeight)
		for water := ebb.MaxHeight - 1; water >= 0; water-- {
			below, _ := ebb.Depths(s, water)
			for p := range s.Heights {
				if below[p] > above[p] {
					t.Fatalf("%v: %d is %d deep at %d, and %d deep at %d", s, p, above[p], water+1, below[p], water)
				}
			}
			above = below
		}
	})
}

// P1.11, M7: a place becomes lower, or higher.
func TestOtherHeight(t *testing.T) {
	eachAnyShore(func(s ebb.Shore) {
		before, _ := ebb.Sills(s)
		for p, height := range s.Heights {
			for _, changed := range []int{0, height - 1, height + 1, height + 7, ebb.MaxHeight} {
				if changed < 0 || changed > ebb.MaxHeight {
					continue
				}
				other := ebb.Shore{Rows: s.Rows, Columns: s.Columns, Heights: slices.Clone(s.Heights)}
				other.Heights[p] = changed
				after, _ := ebb.Sills(other)
				for q := range after {
					if after[q] > before[q]+max(0, changed-height) {
						t.Fatalf("%v: with %d at %d the sill of %d is %d, and was %d", s, changed, p, q, after[q], before[q])
					}
				}
			}
		}
	})
}

// P1.12, M5.
func TestMirrored(t *testing.T) {
	eachAnyShore(func(s ebb.Shore) {
		turned := func(place int) int { return place - place%s.Columns + s.Columns - 1 - place%s.Columns }
		turnedList := func(numbers []int) []int {
			out := make([]int, len(numbers))
			for p, number := range numbers {
				out[turned(p)] = number
			}
			return out
		}
		other := ebb.Shore{Rows: s.Rows, Columns: s.Columns, Heights: turnedList(s.Heights)}
		sills, _ := ebb.Sills(s)
		if got, _ := ebb.Sills(other); !slices.Equal(got, turnedList(sills)) {
			t.Fatalf("Sills(%v) = %v, mirrored %v", s, sills, got)
		}
		for water := 0; water <= ebb.MaxHeight; water += 3 {
			depths, _ := ebb.Depths(s, water)
			if got, _ := ebb.Depths(other, water); !slices.Equal(got, turnedList(depths)) {
				t.Fatalf("Depths(%v, %d) = %v, mirrored %v", s, water, depths, got)
			}
			pools, _ := ebb.Pools(s, water)
			for _, pool := range pools {
				for i, p := range pool {
					pool[i] = turned(p)
				}
				slices.Sort(pool)
			}
			slices.SortFunc(pools, slices.Compare[[]int])
			if got, _ := ebb.Pools(other, water); !sameLists(got, pools) {
				t.Fatalf("Pools(%v, %d) mirrored = %v, want %v", s, water, got, pools)
			}
		}
	})
}

// R4: arguments stay as they were, and results share no memory with them or with one another.
func TestOwnMemory(t *testing.T) {
	s, waters, places := hollow(), list(6, 5, 4, 3), list(4)
	// Capacity behind the ends of the lists must not be written to either.
	s.Heights = append(s.Heights, -7)[:9]
	ruin := func(lists ...[]int) {
		for _, l := range lists {
			for i := range l {
				l[i] = -99
			}
			l = l[:cap(l)]
			for i := range l {
				l[i] = -99
			}
		}
	}
	for range 2 {
		sills, _ := ebb.Sills(s)
		depths, _ := ebb.Depths(s, 0)
		bare, _ := ebb.Bare(s, 0)
		way, _ := ebb.Way(s, 4)
		basin, _ := ebb.Basin(s, 4)
		tree, _ := ebb.Tree(s)
		hour, _ := ebb.Hour(s, waters, 7)
		proves := ebb.Proves(s, places, 4)
		if !slices.Equal(sills, list(5, 5, 5, 5, 4, 5, 5, 4, 5)) || !slices.Equal(depths, list(0, 0, 0, 0, 2, 0, 0, 0, 0)) ||
			!slices.Equal(bare, list(0, 1, 2, 3, 5, 6, 7, 8)) || !slices.Equal(way, list(4, 7)) || !slices.Equal(basin, list(4)) ||
			len(tree) != 9 || tree[0] != [2]int{4, 7} || hour != 2 || proves != api.OK {
			t.Fatalf("results after others were overwritten: %v %v %v %v %v %v %d %d", sills, depths, bare, way, basin, tree, hour, proves)
		}
		ruin(sills, depths, bare, way, basin)
		clear(tree)
	}
	if !slices.Equal(s.Heights, hollow().Heights) || s.Heights[:10][9] != -7 || !slices.Equal(waters, list(6, 5, 4, 3)) || !slices.Equal(places, list(4)) {
		t.Errorf("arguments were changed: %v %v %v", s.Heights[:10], waters, places)
	}
	pools, _ := ebb.Pools(twins(), 0)
	pools[0] = append(pools[0], 77)
	ruin(pools[0])
	if !slices.Equal(pools[1], list(2)) {
		t.Errorf("pools share memory: %v", pools)
	}
}

// P1: every function returns for all arguments, and the same for equal ones.
func TestAllArguments(t *testing.T) {
	numbers := []int{math.MinInt, -1, 0, 1, 2, 5, 6, 7, 30, 31, 36, 37, 1 << 32, 1 << 62, math.MaxInt}
	lists := [][]int{nil, {}, {0}, {-1}, {31}, {math.MaxInt, math.MinInt}, make([]int, 6), make([]int, 36), make([]int, 1000)}
	for _, rows := range numbers {
		for _, columns := range numbers {
			for _, heights := range lists {
				s := ebb.Shore{Rows: rows, Columns: columns, Heights: heights}
				for _, number := range numbers {
					if one, other := answers(s, number, lists), answers(s, number, lists); !slices.Equal(one, other) {
						t.Fatalf("%v and %d: %v, then %v", s, number, one, other)
					}
				}
			}
		}
	}
}

// answers calls all functions and returns all numbers that they return.
func answers(s ebb.Shore, number int, lists [][]int) []int {
	all := []int{int(ebb.Check(s))}
	add := func(numbers []int, e api.Errno) { all = append(append(all, numbers...), int(e)) }
	addOne := func(n int, e api.Errno) { all = append(all, n, int(e)) }
	add(ebb.Sills(s))
	add(ebb.Depths(s, number))
	add(ebb.Bare(s, number))
	pools, e := ebb.Pools(s, number)
	add(slices.Concat(pools...), e)
	add(ebb.Way(s, number))
	add(ebb.Basin(s, number))
	tree, e := ebb.Tree(s)
	for _, j := range tree {
		add(j[:], e)
	}
	addOne(ebb.Between(s, number, 0))
	addOne(ebb.Between(s, 0, number))
	for _, l := range lists {
		addOne(ebb.Hour(s, l, number))
		all = append(all, int(ebb.Proves(s, l, number)))
	}
	return all
}
