package lock_test

import (
	"fmt"

	"bellarmine/lock"
)

// The example of README.md.
func Example() {
	order := []int{1, 2, 0}
	left, _ := lock.Pass(order)
	moves, _ := lock.Moves(order)
	run, _ := lock.Run(order, "iioioo")
	passes, _ := lock.Passes(order)
	fmt.Println(left, moves, run, passes)

	sorted, _ := lock.Sorted(order)
	i, j, k, _ := lock.Why(order)
	e := lock.Proves(order, i, j, k)
	clash, _ := lock.Clash(order)
	two, _ := lock.Two(order)
	fmt.Println(sorted, i, j, k, e, clash, two)

	count, _ := lock.Count(4, 2)
	leaves, _ := lock.Leaves(order)
	_, lost := lock.Leaves([]int{2, 0, 1})
	fmt.Println(count, leaves, lost)
	// Output:
	// [1 0 2] ioiioo [2 0 1] 2
	// false 0 1 2 0 [[1 2]] [0 1 0]
	// 22 iioioo 12
}
