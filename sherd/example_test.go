package sherd_test

import (
	"fmt"

	"bellarmine/sherd"
)

// The example of README.md.
func Example() {
	rim := "cabBAaA"
	most, _ := sherd.Most(rim)
	plan, _ := sherd.First(rim)
	count, _ := sherd.Count(rim)
	forced, _ := sherd.Forced(rim)
	e := sherd.Valid(rim, plan)
	fmt.Println(most, plan, count, forced, e)

	steps, _ := sherd.Steps(rim)
	rest, _ := sherd.Rest(rim)
	full, _ := sherd.Full(rim)
	fmt.Println(steps, rest, full)

	core, _ := sherd.Core("bacAB")
	turned, _ := sherd.Turn("bacAB", 2)
	opposite, _ := sherd.Opposite("bacAB")
	alike, _ := sherd.Alike(rim, "bacAB")
	fmt.Println(core, turned, opposite, alike)
	// Output:
	// 3 [[1 4] [2 3] [5 6]] 2 [[2 3]] 0
	// [[2 3] [1 4] [5 6]] c false
	// c cABba baCAB true
}
