package post

import (
	"iter"
	"slices"
)

// rating is how lists of places of a shore are rated: of those that are good, the less one costs, the better it is.
type rating struct {
	places int
	good   func(list []int) bool
	// cost returns what a place adds to what the lists with it cost.
	cost func(place int) int
}

// byNumber rates posts that guard a shore by how many they are.
func byNumber(shore []int) rating {
	return rating{len(shore), handsOf(shore).guarded, func(int) int { return 1 }}
}

// byPrice rates posts that guard a shore by their prices.
func byPrice(shore, prices []int) rating {
	return rating{len(shore), handsOf(shore).guarded, func(place int) int { return prices[place] }}
}

// byDistance rates places that are apart: each of them makes a list better.
func byDistance(shore []int) rating {
	return rating{len(shore), handsOf(shore).apart, func(int) int { return -1 }}
}

// rated yields all good lists in ascending order. All of them are yielded in the same memory, so whoever keeps one
// copies it.
func (r rating) rated() iter.Seq[[]int] {
	return func(yield func([]int) bool) {
		for list := range allLists(r.places) {
			if r.good(list) && !yield(list) {
				return
			}
		}
	}
}

// best returns, in ascending order, all good lists that cost the least. There is always one, since all places together
// guard a shore, and a place alone is apart.
func (r rating) best() [][]int {
	var best [][]int
	least := 0
	for list := range r.rated() {
		cost := r.sum(list)
		if len(best) == 0 || cost < least {
			best, least = nil, cost
		}
		if cost == least {
			best = append(best, slices.Clone(list))
		}
	}
	return best
}

// sum returns what a list costs.
func (r rating) sum(list []int) int {
	sum := 0
	for _, place := range list {
		sum += r.cost(place)
	}
	return sum
}

// allLists yields, in ascending order, all strictly ascending lists of places below n. All of them are yielded in the
// same memory.
func allLists(n int) iter.Seq[[]int] {
	return func(yield func([]int) bool) {
		list := make([]int, 0, n)
		for yield(list) {
			list = next(list, n)
			if len(list) == 0 {
				return
			}
		}
	}
}

// next turns a list into the next greater one; after the greatest one it returns the list without places.
func next(list []int, n int) []int {
	if len(list) == 0 {
		return append(list, 0)
	}
	last := list[len(list)-1]
	if last+1 < n {
		return append(list, last+1)
	}
	list = list[:len(list)-1]
	if len(list) > 0 {
		list[len(list)-1]++
	}
	return list
}

// placesIn returns, in ascending order, the places below n that are in just so many of some lists.
func placesIn(lists [][]int, times, n int) []int {
	var found []int
	for place := range n {
		if timesIn(lists, place) == times {
			found = append(found, place)
		}
	}
	return found
}

// timesIn returns how many of some lists a place is in.
func timesIn(lists [][]int, place int) int {
	times := 0
	for _, list := range lists {
		if slices.Contains(list, place) {
			times++
		}
	}
	return times
}
