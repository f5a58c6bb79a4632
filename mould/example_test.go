package mould_test

import (
	"fmt"

	"bellarmine/mould"
)

// The example of README.md.
func Example() {
	casts := []int{0b0001, 0b0011, 0b0111, 0b1000}
	honest, _ := mould.Honest(4, casts)
	origin, _ := mould.Origin(4, casts)
	path, _ := mould.Path(4, casts, 2)
	last, _ := mould.Last(4, casts, 1, 2)
	fmt.Println(honest, origin, path, last)

	casts = []int{0b11, 0b01, 0b10}
	one, two, _ := mould.Why(2, casts)
	e := mould.Proves(2, casts, one, two, 0, 1, 2)
	forged, _ := mould.Forged(2, casts)
	worn, _ := mould.Worn(2, casts)
	model, _ := mould.Model(2, casts)
	fmt.Println(one, two, e, forged, worn, model)
	// Output:
	// true [-1 0 1 -1] [0 1 2] 1
	// 0 1 0 [0] [0] 1
}
