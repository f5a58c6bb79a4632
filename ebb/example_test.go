package ebb_test

import (
	"fmt"

	"bellarmine/ebb"
)

// The example of README.md.
func Example() {
	shore := ebb.Shore{Rows: 3, Columns: 3, Heights: []int{
		5, 5, 5,
		5, 2, 5,
		5, 4, 5,
	}}
	depths, _ := ebb.Depths(shore, 0)
	pools, _ := ebb.Pools(shore, 0)
	way, _ := ebb.Way(shore, 4)
	basin, _ := ebb.Basin(shore, 4)
	e := ebb.Proves(shore, basin, 4)
	fmt.Println(depths, pools, way, basin, e)
	// Output: [0 0 0 0 2 0 0 0 0] [[4]] [4 7] [4] 0
}
