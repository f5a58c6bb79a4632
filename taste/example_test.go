package taste_test

import (
	"fmt"

	"bellarmine/taste"
)

// The example of README.md.
func Example() {
	sales := []taste.Sale{
		{Prices: []int{1, 2}, Taken: []int{2, 1}},
		{Prices: []int{2, 1}, Taken: []int{1, 2}},
		{Prices: []int{1, 1}, Taken: []int{2, 2}},
	}
	cost, _ := taste.Cost(2, sales, 2, 0)
	better, _ := taste.Better(2, sales)
	one, _ := taste.Taste(2, sales)
	ranks, _ := taste.Ranks(2, sales)
	worth, weight, _ := taste.Numbers(2, sales)
	e := taste.Agrees(2, sales, worth, weight)
	fmt.Println(cost, better, one, ranks, worth, weight, e)

	sales = append(sales,
		taste.Sale{Prices: []int{2, 1}, Taken: []int{2, 1}},
		taste.Sale{Prices: []int{1, 2}, Taken: []int{1, 2}},
	)
	ring, _ := taste.Ring(2, sales)
	e = taste.Proves(2, sales, ring)
	least, _ := taste.Least(2, sales, 2, 4)
	wrong, _ := taste.Wrong(2, sales)
	fmt.Println(ring, e, least, wrong)
	// Output:
	// 3 [[2 0] [2 1]] true [0 0 2] [0 0 1] [1 1 1] 0
	// [3 4] 0 [2 4] [3]
}
