package chart_test

import (
	"fmt"

	"bellarmine/chart"
)

// The example of README.md.
func Example() {
	m := chart.Map{Points: [][]int{{0, 2, 4}, {6, 1, 8}, {10, 3, 7}, {9, 5, 11}}}
	tidy, _ := chart.Tidy(m)
	faces, _ := chart.Faces(m)
	parts, _ := chart.Parts(m)
	genus, _ := chart.Genus(m)
	fmt.Println(tidy.Points, faces, parts, genus)

	fewest, _ := chart.Fewest(m)
	colours, _ := chart.Colour(m)
	proper, _ := chart.Proper(m, []int{0, 1, 2, 0})
	odd, _ := chart.Odd(m)
	fmt.Println(fewest, colours, proper, odd)

	less, _ := chart.Without(m, 5)
	back, _ := chart.Back(less)
	dual, _ := chart.Dual(less)
	fmt.Println(less.Points, back.Points, dual.Points)
	// Output:
	// [[0 2 4] [1 8 6] [3 7 10] [5 11 9]] [[0 8 5] [1 2 7] [3 4 11] [6 10 9]] 1 0
	// 4 [0 1 2 3] false [0 1 2]
	// [[0 2 4] [1 8 6] [3 7] [5 9]] [[0 4 2] [1 6 8] [3 7] [5 9]] [[0 8 5] [1 2 7] [3 4 9 6]]
}
