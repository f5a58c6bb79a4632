package walk_test

import (
	"fmt"

	"bellarmine/walk"
)

// The example of README.md.
func Example() {
	tides := []int{2, 3}
	above, below, _ := walk.Weight(tides)
	can, _ := walk.Can(tides)
	first, _ := walk.Walk(tides, 6)
	begin, loop, _ := walk.Loop(tides)
	e := walk.Meets(tides, loop)
	left, _ := walk.Left(tides, []int{0, 0})
	goes, _ := walk.Goes(tides, []int{0, 0})
	fmt.Println(above, below, can, first, begin, loop, e, left, goes)

	tides = []int{2, 3, 6}
	can, _ = walk.Can(tides)
	longest, _ := walk.Longest(tides)
	groups, _ := walk.Groups(tides)
	fmt.Println(can, longest, groups)
	// Output:
	// 5 6 true [0 0 1 0 0 1] [0] [0 1 0] 0 [2 1] true
	// false 7 [0 0 1]
}
