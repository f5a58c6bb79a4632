package taste

import "slices"

// costs is what was taken at each sale, by what it costs at the prices of each sale: row a has all costs at the prices of a.
type costs [][]int

// costsOf returns the costs of checked sales.
func costsOf(sales []Sale) costs {
	var c costs
	for _, a := range sales {
		var row []int
		for _, b := range sales {
			sum := 0
			for good, price := range a.Prices {
				sum += price * b.Taken[good]
			}
			row = append(row, sum)
		}
		c = append(c, row)
	}
	return c
}

// spares returns how much less the choice of b costs than that of a, at the prices of a.
func (c costs) spares(a, b int) int { return c[a][a] - c[a][b] }

// asGood returns whether a shows its choice to be as good as that of b.
func (c costs) asGood(a, b int) bool { return c.spares(a, b) >= 0 }

// better returns whether a shows its choice to be better than that of b.
func (c costs) better(a, b int) bool { return c.spares(a, b) > 0 }

// pairs returns all pairs of different sales of which the first one shows something of the second one.
func (c costs) pairs(shows func(c costs, a, b int) bool) [][2]int {
	var all [][2]int
	for a := range c {
		for b := range c {
			if a != b && shows(c, a, b) {
				all = append(all, [2]int{a, b})
			}
		}
	}
	return all
}

// only returns the costs of some of the sales.
func (c costs) only(kept []int) costs {
	var some costs
	for _, a := range kept {
		var row []int
		for _, b := range kept {
			row = append(row, c[a][b])
		}
		some = append(some, row)
	}
	return some
}

// wrong returns the first one of the shortest lists of sales without which the others are of one taste.
func (c costs) wrong() []int {
	every := 1<<len(c) - 1
	fewest, _ := c.divide(every)
	for set := range every {
		out, kept := c.divide(set)
		if isBefore(out, fewest) && c.only(kept).oneTaste() {
			fewest = out
		}
	}
	return fewest
}

// divide returns the sales of a set of bits, and the others.
func (c costs) divide(set int) (in, out []int) {
	for sale := range c {
		if set>>sale&1 == 1 {
			in = append(in, sale)
		} else {
			out = append(out, sale)
		}
	}
	return in, out
}

// isBefore returns whether a list is shorter than another one, or as long and smaller.
func isBefore(list, other []int) bool {
	if len(list) != len(other) {
		return len(list) < len(other)
	}
	return slices.Compare(list, other) < 0
}
