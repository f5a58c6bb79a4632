package style_test

import (
	"fmt"

	"bellarmine/style"
)

// The example of README.md.
func Example() {
	row := style.Finds{Layers: 4, Forms: [][]int{{0, 3}, {1, 3}, {1, 2}}}
	order, _ := style.First(row)
	count, _ := style.Count(row)
	dates, _ := style.Dates(row, order)
	beside, _ := style.Beside(row)
	fmt.Println(order, count, dates, beside)

	star := style.Finds{Layers: 4, Forms: [][]int{{0, 1}, {0, 2}, {0, 3}}}
	_, lost := style.First(star)
	a, b, c, _ := style.Why(star)
	e := style.Proves(star, a, b, c)
	fewest, _ := style.Fewest(star)
	fmt.Println(lost, a, b, c, e, fewest)
	// Output:
	// [0 3 1 2] 2 [[0 1] [1 2] [2 3]] [[0 3] [1 2] [1 3]]
	// 12 1 2 3 0 [0]
}
