package share

import (
	"cmp"
	"iter"
	"slices"
)

// allOwners yields the owners of all divisions, in ascending order. All of them are handed over in the same memory, so
// who keeps some copies them.
func allOwners(values [][]int) iter.Seq[[]int] {
	return func(yield func([]int) bool) {
		owners := make([]int, len(values[0]))
		for yield(owners) && goOn(owners, len(values)) {
		}
	}
}

// goOn turns owners into the next greater ones among so many finders, and returns whether there are any.
func goOn(owners []int, finders int) bool {
	for thing, owner := range slices.Backward(owners) {
		if owner+1 < finders {
			owners[thing]++
			return true
		}
		owners[thing] = 0
	}
	return false
}

// gain is what is greatest in the division with the greatest product.
type gain struct {
	// finders is how many have a share that is worth something to them.
	finders, product int
}

func gainOf(own []int) gain {
	g := gain{product: 1}
	for _, worth := range own {
		if worth > 0 {
			g.finders++
			g.product *= worth
		}
	}
	return g
}

func (g gain) exceeds(other gain) bool {
	return cmp.Or(cmp.Compare(g.finders, other.finders), cmp.Compare(g.product, other.product)) > 0
}

// most returns the owners of the division with the greatest product.
func most(values [][]int) []int {
	var best []int
	// Every division exceeds this, so the first one is kept.
	greatest := gain{finders: -1}
	for owners := range allOwners(values) {
		if g := gainOf(divide(values, owners).own()); g.exceeds(greatest) {
			best, greatest = slices.Clone(owners), g
		}
	}
	return best
}

// isBetter returns whether a division is better than another one, by what the own shares are worth in both.
func isBetter(own, before []int) bool {
	more := false
	for i, worth := range own {
		if worth < before[i] {
			return false
		}
		more = more || worth > before[i]
	}
	return more
}
