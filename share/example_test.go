package share_test

import (
	"fmt"

	"bellarmine/share"
)

// The example of README.md.
func Example() {
	values := [][]int{{6, 4, 3}, {5, 5, 1}}
	owners, _ := share.Turns(values, []int{0, 1})
	worth, _ := share.Worth(values, owners)
	envy, _ := share.Envy(values, owners)
	fair, _ := share.Fair(values, owners)
	most, _ := share.Most(values)
	better, _ := share.Better(values, []int{1, 0, 1})
	_, lost := share.Free(values)
	fmt.Println(owners, worth, envy, fair, most, better, lost)

	all := []int{0, 0, 0}
	one, other, _ := share.Why(values, all)
	e := share.Proves(values, all, one, other)
	fmt.Println(one, other, e)

	values = [][]int{{1, 5, 2}, {5, 1, 2}}
	rings, _ := share.Rings(values)
	free, _ := share.Free(values)
	count, _ := share.Count(values)
	fmt.Println(rings, free, count)
	// Output:
	// [0 1 0] [[9 4] [6 5]] [[1 0]] 1 [0 1 0] [0 1 1] 12
	// 1 0 0
	// [1 0 0] [1 0 0] 2
}
