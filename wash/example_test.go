package wash_test

import (
	"fmt"

	"bellarmine/wash"
)

// The example of README.md.
func Example() {
	tide := []int{1, 2, 0, 4, 3, 6, 5}
	after, _ := wash.After(tide, 2)
	before, _ := wash.After(tide, -1)
	rings, _ := wash.Rings(tide)
	back, _ := wash.Back(tide)
	when, _ := wash.When(tide, 0, 2)
	fmt.Println(after, before, rings, back, when)

	half, _ := wash.Half(tide)
	halves, _ := wash.Halves(tide)
	whole, _ := wash.Then(half, half)
	odd, _ := wash.Odd(tide)
	fmt.Println(half, halves, whole, odd)

	other := []int{1, 2, 0, 4, 3, 5, 6}
	_, lost := wash.Half(other)
	length, _ := wash.Why(other)
	e := wash.Proves(other, length)
	alike, _ := wash.Alike(tide, other)
	exchange, _ := wash.Exchange(tide, other)
	friends, _ := wash.Friends(tide)
	named, _ := wash.Named(other, []int{6, 5, 4, 3, 2, 1, 0})
	fmt.Println(lost, length, e, alike, exchange, friends, named)
	// Output:
	// [2 0 1 3 4 5 6] [2 0 1 4 3 6 5] [[0 1 2] [3 4] [5 6]] 6 2
	// [2 0 1 5 6 4 3] 2 [1 2 0 4 3 6 5] false
	// 12 2 0 false true 24 [0 1 3 2 6 4 5]
}
