package style

import (
	"cmp"
	"iter"
	"slices"
)

// allOrders yields all orders of n layers, the first one first. All of them are yielded in the same memory, so whoever
// keeps one copies it.
func allOrders(n int) iter.Seq[[]int] {
	return func(yield func([]int) bool) {
		order := make([]int, n)
		for place := range order {
			order[place] = place
		}
		for more := true; more; more = advance(order) {
			if !yield(order) {
				return
			}
		}
	}
}

// ordersWith yields, of all orders of n layers, those of which a question is answered by yes.
func ordersWith(n int, question func(order []int) bool) iter.Seq[[]int] {
	return func(yield func([]int) bool) {
		for order := range allOrders(n) {
			if question(order) && !yield(order) {
				return
			}
		}
	}
}

// advance turns an order into the next greater one, and returns whether there is one.
func advance(order []int) bool {
	place := len(order) - 2
	for place >= 0 && order[place] > order[place+1] {
		place--
	}
	if place < 0 {
		return false
	}
	other := len(order) - 1
	for order[other] < order[place] {
		other--
	}
	order[place], order[other] = order[other], order[place]
	slices.Reverse(order[place+1:])
	return true
}

// shortest returns, of the answers to a question about all orders of n layers, and of these the shortest ones, the
// first one.
func shortest(n int, question func(order []int) []int) []int {
	var answers [][]int
	for order := range allOrders(n) {
		answers = append(answers, question(order))
	}
	return slices.MinFunc(answers, func(a, b []int) int {
		return cmp.Or(cmp.Compare(len(a), len(b)), slices.Compare(a, b))
	})
}

// meetings counts, for two layers, the smaller one first, the orders in which they are next to one another.
type meetings struct {
	orders int
	times  [MaxLayers][MaxLayers]int
}

// add counts one more order.
func (m *meetings) add(order []int) {
	m.orders++
	for place, layer := range order[1:] {
		before := order[place]
		m.times[min(before, layer)][max(before, layer)]++
	}
}

// always returns all pairs of n layers that are next to one another in all orders.
func (m *meetings) always(n int) [][2]int {
	var pairs [][2]int
	for a := range n {
		for b := a + 1; b < n; b++ {
			if m.times[a][b] == m.orders {
				pairs = append(pairs, [2]int{a, b})
			}
		}
	}
	return pairs
}
