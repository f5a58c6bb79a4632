package ebb

import (
	"iter"
	"slices"
)

// maxNodes counts the places of the largest shore, and the river.
const maxNodes = MaxSide*MaxSide + 1

// numbers has a number for each node.
type numbers [maxNodes]int

// marks says for each node whether it is marked.
type marks [maxNodes]bool

// list returns all nodes that are marked.
func (m *marks) list() []int {
	var nodes []int
	for node, marked := range m {
		if marked {
			nodes = append(nodes, node)
		}
	}
	return nodes
}

// grid is a shore whose nodes are its places and the river, which counts as a place of height 0: then a way to the
// river is a way like any other one. The number of the river is also how many places there are.
type grid struct {
	columns int
	river   int
	heights numbers
}

func newGrid(s Shore) *grid {
	g := &grid{columns: s.Columns, river: len(s.Heights)}
	copy(g.heights[:], s.Heights)
	return g
}

func (g *grid) isPlace(number int) bool { return within(number, 0, g.river-1) }

// list returns the numbers of all places.
func (g *grid) list(n *numbers) []int { return slices.Clone(n[:g.river]) }

// neighbours yields the nodes beside a node, in ascending order.
func (g *grid) neighbours(node int) iter.Seq[int] {
	if node == g.river {
		return g.lastRow
	}
	return func(yield func(int) bool) {
		column := node % g.columns
		if node >= g.columns && !yield(node-g.columns) {
			return
		}
		if column > 0 && !yield(node-1) {
			return
		}
		if column < g.columns-1 && !yield(node+1) {
			return
		}
		yield(min(node+g.columns, g.river))
	}
}

// lastRow yields the places beside the river.
func (g *grid) lastRow(yield func(int) bool) {
	for place := g.river - g.columns; place < g.river; place++ {
		if !yield(place) {
			return
		}
	}
}

// lowest returns the smallest height of a way from a node to each node.
func (g *grid) lowest(from int) numbers {
	var best numbers
	for node := range best {
		best[node] = MaxHeight + 1
	}
	best[from] = g.heights[from]
	for work := []int{from}; len(work) > 0; work = work[1:] {
		node := work[0]
		for beside := range g.neighbours(node) {
			height := max(best[node], g.heights[beside])
			if height < best[beside] {
				best[beside] = height
				work = append(work, beside)
			}
		}
	}
	return best
}

func (g *grid) sills() numbers { return g.lowest(g.river) }

// depths returns how deep the water is at each place when the river has fallen to a level.
func (g *grid) depths(water int) numbers {
	sills := g.sills()
	var depths numbers
	for place := range g.river {
		depths[place] = max(sills[place], water) - g.heights[place]
	}
	return depths
}

// reach marks all nodes to which ways through open nodes lead from a node, none if it is not open itself.
func (g *grid) reach(from int, open *marks) *marks {
	var reached marks
	reached[from] = open[from]
	for work := reached.list(); len(work) > 0; work = work[1:] {
		for beside := range g.neighbours(work[0]) {
			if open[beside] && !reached[beside] {
				reached[beside] = true
				work = append(work, beside)
			}
		}
	}
	return &reached
}

// steps returns how many places the shortest way to the river has from each node, through places of at most a height;
// it is maxNodes, more than any way has, where there is none.
func (g *grid) steps(height int) numbers {
	var steps numbers
	for node := range steps {
		steps[node] = maxNodes
	}
	steps[g.river] = 0
	for work := []int{g.river}; len(work) > 0; work = work[1:] {
		node := work[0]
		for beside := range g.neighbours(node) {
			if g.heights[beside] <= height && steps[beside] == maxNodes {
				steps[beside] = steps[node] + 1
				work = append(work, beside)
			}
		}
	}
	return steps
}

// nearer returns the first neighbour that is one step nearer to the river than a node.
func (g *grid) nearer(node int, steps *numbers) int {
	for beside := range g.neighbours(node) {
		if steps[beside] < steps[node] {
			return beside
		}
	}
	// A node that has a way to the river has such a neighbour.
	return g.river
}

// isBarrier returns whether some places hold back water of a height.
func (g *grid) isBarrier(members *marks, height int) bool {
	for _, place := range members.list() {
		for beside := range g.neighbours(place) {
			if beside == g.river || g.heights[beside] < height && !members[beside] {
				return false
			}
		}
	}
	return true
}
