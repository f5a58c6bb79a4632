package ebb

import "slices"

// joint is two neighbours, the smaller one first; the river is the greatest node.
type joint = [2]int

// joints returns all joints in ascending order.
func (g *grid) joints() []joint {
	var joints []joint
	for node := range g.river {
		for beside := range g.neighbours(node) {
			if node < beside {
				joints = append(joints, joint{node, beside})
			}
		}
	}
	return joints
}

func (g *grid) jointHeight(j joint) int { return max(g.heights[j[0]], g.heights[j[1]]) }

// tree returns the joints of the tree in the order in which they are taken.
func (g *grid) tree() []joint {
	joints := g.joints()
	// The sort is stable: of joints that are as high as one another the smaller one stays first.
	slices.SortStableFunc(joints, func(a, b joint) int { return g.jointHeight(a) - g.jointHeight(b) })
	var parts numbers
	for node := range parts {
		parts[node] = node
	}
	var taken []joint
	for _, j := range joints {
		if parts[j[0]] != parts[j[1]] {
			taken = append(taken, j)
			parts.unite(parts[j[0]], parts[j[1]])
		}
	}
	return taken
}

// unite makes one part of two.
func (n *numbers) unite(one, other int) {
	for node, part := range n {
		if part == other {
			n[node] = one
		}
	}
}
