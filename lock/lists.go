package lock

import (
	"iter"
	"slices"
)

// lists yields all lists of so many numbers below a bound, each of which fits behind those before it, in ascending order.
// Each has its own memory.
//
// Lists that are begun wait in a basin: what came in last, and is gone on with first, must be the smallest one.
func lists(length, bound int, fits func(begun []int, number int) bool) iter.Seq[[]int] {
	return func(yield func([]int) bool) {
		var waiting basin[[]int]
		waiting.bring(nil)
		for !waiting.isEmpty() {
			begun := waiting.take()
			if len(begun) == length {
				if !yield(begun) {
					return
				}
				continue
			}
			for number := bound - 1; number >= 0; number-- {
				if fits(begun, number) {
					waiting.bring(append(slices.Clone(begun), number))
				}
			}
		}
	}
}

// isNew returns whether a number is not yet in a list.
func isNew(begun []int, number int) bool { return !slices.Contains(begun, number) }

// isAny lets all numbers fit.
func isAny([]int, int) bool { return true }

// upTo returns the numbers below n in ascending order.
func upTo(n int) []int {
	var numbers []int
	for number := range n {
		numbers = append(numbers, number)
	}
	return numbers
}
