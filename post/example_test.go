package post_test

import (
	"fmt"

	"bellarmine/post"
)

// The example of README.md.
func Example() {
	shore := []int{-1, 0, 1, 2, 3, 1}
	hand, _ := post.Hand(shore, 1)
	fewest, _ := post.Fewest(shore)
	e := post.Guards(shore, fewest)
	fmt.Println(hand, fewest, e)

	apart, _ := post.Apart(shore)
	e = post.Proves(shore, apart)
	count, _ := post.Count(shore)
	ways, _ := post.Ways(shore)
	fmt.Println(apart, e, count, ways)

	always, _ := post.Always(shore)
	never, _ := post.Never(shore)
	cheap, _ := post.Cheapest(shore, []int{1, 9, 1, 5, 1, 1})
	fmt.Println(always, never, cheap)
	// Output:
	// [0 1 2 5] [1 3] 0
	// [0 3] 0 29 2
	// [1] [0 2 5] [0 2 4 5]
}
