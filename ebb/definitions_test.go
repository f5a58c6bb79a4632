package ebb_test

import (
	"slices"
	"testing"

	"bellarmine/api"
	"bellarmine/ebb"
)

// In this file the definitions of the chapter are spelt out by trying all ways, and held against the functions on
// shores that are small enough for that.

// beside returns whether two places are neighbours, as the chapter defines them.
func beside(s ebb.Shore, a, b int) bool {
	rowA, columnA, rowB, columnB := a/s.Columns, a%s.Columns, b/s.Columns, b%s.Columns
	rows, columns := max(rowA-rowB, rowB-rowA), max(columnA-columnB, columnB-columnA)
	return rows+columns == 1
}

func inLastRow(s ebb.Shore, place int) bool { return place/s.Columns == s.Rows-1 }

// joined is beside with the river as one more place.
func joined(s ebb.Shore, a, b int) bool {
	river := len(s.Heights)
	if a == river || b == river {
		return a != b && inLastRow(s, min(a, b))
	}
	return beside(s, a, b)
}

func heightOf(s ebb.Shore, node int) int {
	if node == len(s.Heights) {
		return 0
	}
	return s.Heights[node]
}

func heightOfWay(s ebb.Shore, way []int) int {
	height := 0
	for _, node := range way {
		height = max(height, heightOf(s, node))
	}
	return height
}

// eachWay visits all ways that begin at a node, among the nodes below a number.
func eachWay(s ebb.Shore, from, nodes int, visit func(way []int)) {
	var extend func(way []int)
	extend = func(way []int) {
		visit(way)
		for next := range nodes {
			if joined(s, way[len(way)-1], next) && !slices.Contains(way, next) {
				extend(append(slices.Clone(way), next))
			}
		}
	}
	extend([]int{from})
}

func triedSill(s ebb.Shore, place int) int {
	sill := ebb.MaxHeight + 1
	eachWay(s, place, len(s.Heights), func(way []int) {
		if inLastRow(s, way[len(way)-1]) {
			sill = min(sill, heightOfWay(s, way))
		}
	})
	return sill
}

func triedWay(s ebb.Shore, place int) []int {
	sill := triedSill(s, place)
	var best []int
	eachWay(s, place, len(s.Heights), func(way []int) {
		if !inLastRow(s, way[len(way)-1]) || heightOfWay(s, way) != sill {
			return
		}
		if best == nil || len(way) < len(best) || len(way) == len(best) && slices.Compare(way, best) < 0 {
			best = way
		}
	})
	return best
}

// triedReach returns all places that can be reached from a place by ways through places that are right.
func triedReach(s ebb.Shore, place int, right func(place int) bool) []int {
	reached := map[int]bool{}
	eachWay(s, place, len(s.Heights), func(way []int) {
		if !slices.ContainsFunc(way, func(p int) bool { return !right(p) }) {
			reached[way[len(way)-1]] = true
		}
	})
	var places []int
	for p := range s.Heights {
		if reached[p] {
			places = append(places, p)
		}
	}
	return places
}

func triedPools(s ebb.Shore, sills []int, water int) [][]int {
	kept := func(p int) bool { return sills[p] > water && max(sills[p], water) > s.Heights[p] }
	var pools [][]int
	for p := range s.Heights {
		pool := triedReach(s, p, kept)
		if len(pool) > 0 && pool[0] == p {
			pools = append(pools, pool)
		}
	}
	return pools
}

// triedBetween returns the smallest height of a way from a node to each node.
func triedBetween(s ebb.Shore, from int) []int {
	lowest := slices.Repeat([]int{ebb.MaxHeight + 1}, len(s.Heights)+1)
	eachWay(s, from, len(s.Heights)+1, func(way []int) {
		end := way[len(way)-1]
		lowest[end] = min(lowest[end], heightOfWay(s, way))
	})
	return lowest
}

func allJoints(s ebb.Shore) [][2]int {
	var joints [][2]int
	for b := range len(s.Heights) + 1 {
		for a := range b {
			if joined(s, a, b) {
				joints = append(joints, [2]int{a, b})
			}
		}
	}
	return joints
}

func jointHeight(s ebb.Shore, j [2]int) int { return max(heightOf(s, j[0]), heightOf(s, j[1])) }

// connected returns all nodes that joints connect with a node.
func connected(joints [][2]int, from int) map[int]bool {
	nodes := map[int]bool{from: true}
	for range joints {
		for _, j := range joints {
			if nodes[j[0]] || nodes[j[1]] {
				nodes[j[0]], nodes[j[1]] = true, true
			}
		}
	}
	return nodes
}

func triedTree(s ebb.Shore) [][2]int {
	joints := allJoints(s)
	slices.SortFunc(joints, func(a, b [2]int) int {
		if d := jointHeight(s, a) - jointHeight(s, b); d != 0 {
			return d
		}
		return slices.Compare(a[:], b[:])
	})
	var taken [][2]int
	for _, j := range joints {
		if !connected(taken, j[0])[j[1]] {
			taken = append(taken, j)
		}
	}
	return taken
}

// eachShore visits all shores of so many rows and columns with heights below a number.
func eachShore(rows, columns, below int, visit func(s ebb.Shore)) {
	s := ebb.Shore{Rows: rows, Columns: columns, Heights: make([]int, rows*columns)}
	for {
		visit(s)
		place := 0
		for place < len(s.Heights) && s.Heights[place] == below-1 {
			s.Heights[place] = 0
			place++
		}
		if place == len(s.Heights) {
			return
		}
		s.Heights[place]++
	}
}

// mixed returns a shore of a series: always the same one for the same number.
func mixed(number, rows, columns, below int) ebb.Shore {
	s := ebb.Shore{Rows: rows, Columns: columns}
	state := uint32(number)*2654435761 + 12345
	for range rows * columns {
		state = state*1664525 + 1013904223
		s.Heights = append(s.Heights, int(state>>16)%below)
	}
	return s
}

// eachSmallShore visits shores small enough to try all ways: every one with few places and heights, and some others.
func eachSmallShore(visit func(s ebb.Shore)) {
	for _, size := range [][3]int{{1, 1, 31}, {1, 4, 4}, {4, 1, 4}, {2, 2, 4}, {2, 3, 3}, {3, 2, 3}} {
		eachShore(size[0], size[1], size[2], visit)
	}
	eachShore(3, 3, 2, visit)
	for number := range 60 {
		visit(mixed(number, 3, 3, 31))
		visit(mixed(number, 4, 2, 5))
		visit(mixed(number, 2, 5, 4))
		visit(mixed(number, 6, 1, 31))
		visit(mixed(number, 3, 4, 4))
	}
}

// P1.2, P1.3.
func TestFallsAsDefined(t *testing.T) {
	eachSmallShore(func(s ebb.Shore) {
		sills, _ := ebb.Sills(s)
		for p := range s.Heights {
			if want := triedSill(s, p); len(sills) != len(s.Heights) || sills[p] != want {
				t.Fatalf("Sills(%v) = %v, the sill of %d is %d", s, sills, p, want)
			}
		}
		for water := range slices.Max(s.Heights) + 2 {
			if water > ebb.MaxHeight {
				continue
			}
			checkFall(t, s, sills, water)
		}
	})
}

func checkFall(t *testing.T, s ebb.Shore, sills []int, water int) {
	t.Helper()
	var wantDepths, wantBare []int
	for p, height := range s.Heights {
		depth := max(sills[p], water) - height
		wantDepths = append(wantDepths, depth)
		hour, e := ebb.Hour(s, []int{water}, p)
		if depth == 0 {
			wantBare = append(wantBare, p)
		}
		if hour != 0 || (e == api.OK) != (depth == 0) || e != api.OK && e != api.ErrLost {
			t.Fatalf("Hour(%v, %d, %d) = %d, %d with depth %d", s, water, p, hour, e, depth)
		}
	}
	if depths, e := ebb.Depths(s, water); e != api.OK || !slices.Equal(depths, wantDepths) {
		t.Fatalf("Depths(%v, %d) = %v, %d, want %v", s, water, depths, e, wantDepths)
	}
	if bare, e := ebb.Bare(s, water); e != api.OK || !slices.Equal(bare, wantBare) {
		t.Fatalf("Bare(%v, %d) = %v, %d, want %v", s, water, bare, e, wantBare)
	}
	if pools, e := ebb.Pools(s, water); e != api.OK || !sameLists(pools, triedPools(s, sills, water)) {
		t.Fatalf("Pools(%v, %d) = %v, %d, want %v", s, water, pools, e, triedPools(s, sills, water))
	}
}

// P1.4, P1.5.
func TestWayAndBasinAsDefined(t *testing.T) {
	eachSmallShore(func(s ebb.Shore) {
		for p := range s.Heights {
			if way, e := ebb.Way(s, p); e != api.OK || !slices.Equal(way, triedWay(s, p)) {
				t.Fatalf("Way(%v, %d) = %v, %d, want %v", s, p, way, e, triedWay(s, p))
			}
			sill := triedSill(s, p)
			want := triedReach(s, p, func(q int) bool { return s.Heights[q] < sill })
			if basin, e := ebb.Basin(s, p); e != api.OK || !slices.Equal(basin, want) {
				t.Fatalf("Basin(%v, %d) = %v, %d, want %v", s, p, basin, e, want)
			}
		}
	})
}

// P1.6, P1.7.
func TestBetweenAndTreeAsDefined(t *testing.T) {
	eachSmallShore(func(s ebb.Shore) {
		if tree, e := ebb.Tree(s); e != api.OK || !slices.Equal(tree, triedTree(s)) {
			t.Fatalf("Tree(%v) = %v, %d, want %v", s, tree, e, triedTree(s))
		}
		for a := range len(s.Heights) + 1 {
			for b, want := range triedBetween(s, a) {
				if got, e := ebb.Between(s, a, b); got != want || e != api.OK {
					t.Fatalf("Between(%v, %d, %d) = %d, %d, want %d", s, a, b, got, e, want)
				}
			}
		}
	})
}

// eachSubset visits all lists of places of a shore.
func eachSubset(s ebb.Shore, visit func(places []int)) {
	for set := range 1 << len(s.Heights) {
		var places []int
		for p := range s.Heights {
			if set>>p&1 == 1 {
				places = append(places, p)
			}
		}
		visit(places)
	}
}

func isBarrier(s ebb.Shore, places []int, height int) bool {
	for _, p := range places {
		if inLastRow(s, p) {
			return false
		}
		for q := range s.Heights {
			if beside(s, p, q) && s.Heights[q] < height && !slices.Contains(places, q) {
				return false
			}
		}
	}
	return true
}

// P1.5; and P1.9: each place of a barrier has a sill of at least its height.
func TestProvesAsDefined(t *testing.T) {
	try := func(s ebb.Shore) {
		sills, _ := ebb.Sills(s)
		eachSubset(s, func(places []int) {
			for height := range slices.Max(s.Heights) + 2 {
				want := api.OK
				if !isBarrier(s, places, height) {
					want = api.ErrProof
				}
				if e := ebb.Proves(s, places, height); e != want {
					t.Fatalf("Proves(%v, %v, %d) = %d, want %d", s, places, height, e, want)
				}
				for _, p := range places {
					if want == api.OK && sills[p] < height {
						t.Fatalf("%v is a barrier of %v for %d, but %d has the sill %d", places, s, height, p, sills[p])
					}
				}
			}
		})
	}
	eachShore(3, 2, 3, try)
	eachShore(4, 1, 4, try)
	for number := range 40 {
		try(mixed(number, 3, 3, 6))
		try(mixed(number, 2, 4, 6))
	}
}
