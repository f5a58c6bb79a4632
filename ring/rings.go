package ring

import "slices"

// isRing returns whether different indices of finds are a ring, told from its smallest index on.
func isRing(finds [][2]int, indices []int) bool {
	if len(indices) < 2 || slices.Min(indices) != indices[0] {
		return false
	}
	var begins [MaxForms]bool
	for place, i := range indices {
		next := indices[(place+1)%len(indices)]
		if finds[i][1] != finds[next][0] || begins[finds[i][0]] {
			return false
		}
		begins[finds[i][0]] = true
	}
	return true
}

// allRings returns all rings of finds, in ascending order.
func allRings(finds [][2]int) [][]int {
	var rings [][]int
	for i := range finds {
		rings = append(rings, ringsOn(finds, []int{i})...)
	}
	return rings
}

// ringsOn returns, in ascending order, all rings that begin with a way: indices of finds, each of which leads on from
// the one before it. A way that is a ring is returned itself, so each way is memory of its own.
func ringsOn(finds [][2]int, way []int) [][]int {
	end := finds[way[len(way)-1]][1]
	if end == finds[way[0]][0] {
		return [][]int{way}
	}
	if slices.ContainsFunc(way, func(i int) bool { return finds[i][0] == end }) {
		return nil
	}
	var rings [][]int
	for i := way[0] + 1; i < len(finds); i++ {
		if finds[i][0] == end {
			rings = append(rings, ringsOn(finds, append(slices.Clone(way), i))...)
		}
	}
	return rings
}

// findSet is a set of finds: one bit for each, set if the find is in it.
type findSet uint16

func setOf(indices []int) findSet {
	var set findSet
	for _, i := range indices {
		set |= 1 << i
	}
	return set
}

// choice tells how many of some rings can be chosen so that no two have a find in common.
type choice struct {
	rings []findSet
	// known is how many it is, by the finds that are used already: the same ones are come upon in many ways.
	known map[findSet]int
}

func newChoice(rings [][]int) *choice {
	c := &choice{known: map[findSet]int{}}
	for _, indices := range rings {
		c.rings = append(c.rings, setOf(indices))
	}
	return c
}

// most returns how many rings can be chosen without the finds that are used.
func (c *choice) most(used findSet) int {
	if most, ok := c.known[used]; ok {
		return most
	}
	most := 0
	for _, ring := range c.rings {
		if ring&used == 0 {
			most = max(most, c.with(ring, used))
		}
	}
	c.known[used] = most
	return most
}

// with returns how many rings can be chosen without the finds that are used, if a given ring is one of them.
func (c *choice) with(ring, used findSet) int { return 1 + c.most(used|ring) }

// mostApart returns, of the longest lists of rings of which no two have a find in common, the first one. The rings
// ascend. Each ring with which the list can still become as long as possible is taken; one that is passed over could
// not be in such a list later either, since then only more finds are used.
func mostApart(rings [][]int) [][]int {
	var apart [][]int
	var used findSet
	c := newChoice(rings)
	for i, ring := range c.rings {
		if ring&used == 0 && c.with(ring, used) == c.most(used) {
			apart = append(apart, rings[i])
			used |= ring
		}
	}
	return apart
}
