package ring_test

import (
	"fmt"

	"bellarmine/ring"
)

// The example of README.md.
func Example() {
	finds := [][2]int{{0, 1}, {1, 2}, {2, 0}, {2, 3}, {3, 1}}
	order, _ := ring.Order(4, finds)
	wrong, _ := ring.Against(4, finds, order)
	count, _ := ring.Count(4, finds)
	sure, _ := ring.Sure(4, finds)
	fmt.Println(order, wrong, count, sure)

	fewest, _ := ring.Fewest(4, finds)
	strike, _ := ring.Strike(4, finds)
	first, _ := ring.Ring(4, finds)
	e := ring.Proves(4, finds, first)
	apart, _ := ring.Apart(4, finds)
	fmt.Println(fewest, strike, first, e, apart)

	turned, _ := ring.Turn(4, finds, strike)
	fewest, _ = ring.Fewest(4, turned)
	fmt.Println(turned, fewest)
	// Output:
	// [2 0 3 1] [1] 2 [[0 1] [2 0] [2 1] [2 3] [3 1]]
	// 1 [1] [0 1 2] 0 [[0 1 2]]
	// [[0 1] [2 1] [2 0] [2 3] [3 1]] 0
}
