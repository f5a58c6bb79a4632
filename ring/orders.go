package ring

import "slices"

// eachOrder asks a question of all orders of n forms, the first one first. All of them are handed over in the same
// memory, so a question that keeps one copies it.
func eachOrder(n int, ask func(order []int)) {
	order := make([]int, 0, n)
	var fill func()
	fill = func() {
		if len(order) == n {
			ask(order)
			return
		}
		for form := range n {
			if slices.Contains(order, form) {
				continue
			}
			order = append(order, form)
			fill()
			order = order[:len(order)-1]
		}
	}
	fill()
}

// bestOrders returns all orders that contradict the fewest finds, the first one first.
func bestOrders(forms int, finds [][2]int) [][]int {
	var best [][]int
	fewest := len(finds)
	eachOrder(forms, func(order []int) {
		wrong := len(against(finds, order))
		if wrong > fewest {
			return
		}
		if wrong < fewest {
			best, fewest = nil, wrong
		}
		best = append(best, slices.Clone(order))
	})
	return best
}

// against returns the indices of the finds that an order contradicts.
func against(finds [][2]int, order []int) []int {
	var indices []int
	for i, find := range finds {
		if isBefore(order, find[1], find[0]) {
			indices = append(indices, i)
		}
	}
	return indices
}

// agreed returns all pairs of n forms of which the first one comes before the second one in all of some orders.
func agreed(n int, orders [][]int) [][2]int {
	var pairs [][2]int
	for a := range n {
		for b := range n {
			otherwise := func(order []int) bool { return !isBefore(order, a, b) }
			if !slices.ContainsFunc(orders, otherwise) {
				pairs = append(pairs, [2]int{a, b})
			}
		}
	}
	return pairs
}

// isBefore returns whether a form comes before another one; no form comes before itself.
func isBefore(order []int, a, b int) bool { return slices.Index(order, a) < slices.Index(order, b) }
