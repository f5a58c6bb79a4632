package taste

import (
	"iter"
	"slices"
)

// report is what sales tell of their taste: a ring, or the ranks of their choices.
type report interface{ reports() }

// ring is the first one of the shortest rings.
type ring []int

// ranks is, for each sale of one taste, than how many others its choice is better.
type ranks []int

func (ring) reports() {}

func (ranks) reports() {}

// judge returns the report of sales.
func (c costs) judge() report {
	var worse [MaxSales][MaxSales]bool
	for chain := range c.chains() {
		if c.isRing(chain) {
			return ring(chain)
		}
		if first, last := ends(chain); c.hasBetter(chain) {
			worse[first][last] = true
		}
	}
	found := make(ranks, len(c))
	for a := range c {
		for b := range c {
			if worse[a][b] {
				found[a]++
			}
		}
	}
	return found
}

// oneTaste returns whether there is no ring.
func (c costs) oneTaste() bool {
	_, is := c.judge().(ranks)
	return is
}

// chains yields all lists of different sales, at least one, each of which shows its choice to be as good as that of the
// next one: the shorter ones first, and those of a length in ascending order. Each has its own memory.
func (c costs) chains() iter.Seq[[]int] {
	return func(yield func([]int) bool) {
		var waiting [][]int
		for sale := range c {
			waiting = append(waiting, []int{sale})
		}
		for len(waiting) > 0 {
			chain := waiting[0]
			waiting = waiting[1:]
			if !yield(chain) {
				return
			}
			_, last := ends(chain)
			for next := range c {
				if c.asGood(last, next) && !slices.Contains(chain, next) {
					waiting = append(waiting, append(slices.Clone(chain), next))
				}
			}
		}
	}
}

// ends returns the first and the last sale of a chain.
func ends(chain []int) (first, last int) { return chain[0], chain[len(chain)-1] }

// hasBetter returns whether one of some sales shows its choice to be better than that of the next one.
func (c costs) hasBetter(chain []int) bool {
	for i, sale := range chain[1:] {
		if c.better(chain[i], sale) {
			return true
		}
	}
	return false
}

// isRing returns whether different sales are a ring, told from its smallest index on.
func (c costs) isRing(list []int) bool {
	if len(list) == 0 || slices.Min(list) != list[0] {
		return false
	}
	better := false
	for i, sale := range list {
		next := list[(i+1)%len(list)]
		if !c.asGood(sale, next) {
			return false
		}
		better = better || c.better(sale, next)
	}
	return better
}
