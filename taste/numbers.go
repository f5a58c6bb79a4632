package taste

// numbers returns numbers of sales of one taste, by their ranks.
//
// Sales of one rank are worth the same: none of them shows its choice to be better than that of another one. A rank lies as
// far below the highest one as the sales above it ask for. At the prices of its sales these choices above cost at least 1
// more, as no sale shows its choice to be as good as one of a higher rank: so it is enough that each sale weighs as much as
// it lies below the highest rank. With six ranks, and costs up to 243, that is at most 243 * 244^4, less than MaxWorth.
func (c costs) numbers(r ranks) (worth, weight []int) {
	below := make([]int, len(c))
	weight = make([]int, len(c))
	depth := 0
	for rank := len(c) - 1; rank >= 0; rank-- {
		depth = max(depth, c.depth(r, rank, below, weight))
		for sale := range c {
			if r[sale] == rank {
				below[sale], weight[sale] = depth, max(depth, 1)
			}
		}
	}
	for _, far := range below {
		worth = append(worth, depth-far)
	}
	return worth, weight
}

// depth returns how far below the highest rank the sales above a rank, whose numbers are known, ask its sales to lie.
func (c costs) depth(r ranks, rank int, below, weight []int) int {
	depth := 0
	for a := range c {
		for b := range c {
			if r[a] > rank && r[b] == rank {
				depth = max(depth, below[a]+weight[a]*c.spares(a, b))
			}
		}
	}
	return depth
}

// agree returns whether worth and weight are numbers of sales.
func (c costs) agree(worth, weight []int) bool {
	for a := range c {
		for b := range c {
			if worth[b] > worth[a]-weight[a]*c.spares(a, b) {
				return false
			}
		}
	}
	return true
}
