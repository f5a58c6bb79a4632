package mould

import (
	"cmp"
	"slices"
)

// fewest returns as few numbers below n as possible without which something is right, of several such lists the first
// one. Numbers are left out as bits; without all of them it must be right.
func fewest(n int, right func(without int) bool) []int {
	best := numbersOf(1<<n - 1)
	for without := range 1 << n {
		numbers := numbersOf(without)
		before := cmp.Or(cmp.Compare(len(numbers), len(best)), slices.Compare(numbers, best)) < 0
		if before && right(without) {
			best = numbers
		}
	}
	return best
}

// numbersOf returns the numbers of the bits that are 1, in ascending order.
func numbersOf(set int) []int {
	var numbers []int
	for number := 0; set>>number > 0; number++ {
		if has(set, number) {
			numbers = append(numbers, number)
		}
	}
	return numbers
}

// leaveOut returns casts without some of them.
func leaveOut(casts []int, without int) []int {
	var left []int
	for i, cast := range casts {
		if !has(without, i) {
			left = append(left, cast)
		}
	}
	return left
}

// wear returns casts whose marks are without some of them.
func wear(casts []int, without int) []int {
	var worn []int
	for _, cast := range casts {
		worn = append(worn, cast&^without)
	}
	return worn
}

// differences returns for each cast the marks in which it differs from a model.
func differences(casts []int, model int) []int {
	var different []int
	for _, cast := range casts {
		different = append(different, cast^model)
	}
	return different
}
