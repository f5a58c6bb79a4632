package grant_test

import (
	"fmt"

	"bellarmine/grant"
)

// The example of README.md.
func Example() {
	wishes := [][]int{
		{1, 0, 2, 3},
		{2, 0, 1, 3},
		{0, 1, 2, 3},
		{0, 2, 1, 3},
	}
	holds := []int{0, 1, 2, 3}
	gets, _ := grant.Trade(wishes, holds)
	rings, _ := grant.Rings(wishes, holds)
	group, _ := grant.Why(wishes, holds, holds)
	e := grant.Proves(wishes, holds, holds, group)
	order, _ := grant.Order(wishes, gets)
	count, _ := grant.Count(wishes, gets)
	fmt.Println(gets, rings, group, e, order, count)
	// Output: [1 2 0 3] [[0 1 2] [3]] [0 1] 0 [0 1 2 3] 6
}
