package grant

// turn returns what each holder gets by an order of waiting.
func turn(wishes [][]int, order []int) []int {
	var taken stretches
	gets := make([]int, len(order))
	for _, holder := range order {
		for _, stretch := range wishes[holder] {
			if !taken[stretch] {
				gets[holder] = stretch
				taken[stretch] = true
				break
			}
		}
	}
	return gets
}

// isNext returns whether a holder who waits would now take a given stretch.
func isNext(wishes []int, stretch int, taken stretches) bool {
	for _, wish := range wishes {
		if !taken[wish] {
			return wish == stretch
		}
	}
	return false
}

// firstOrder returns the first order of waiting that leads to a result; or the beginning of one, if after it nobody
// would take the stretch of the result. It never has to go back: who would take this stretch would still do so after
// others took theirs, and hinders nobody who waits for another one.
func firstOrder(wishes [][]int, gets []int) []int {
	var order []int
	var taken stretches
	for {
		next := firstNext(wishes, gets, taken)
		if next == nobody {
			return order
		}
		order = append(order, next)
		taken[gets[next]] = true
	}
}

// firstNext returns the first holder who would now take the stretch of the result, or nobody.
func firstNext(wishes [][]int, gets []int, taken stretches) int {
	for holder, stretch := range gets {
		if isNext(wishes[holder], stretch, taken) {
			return holder
		}
	}
	return nobody
}

// countOrders returns in how many orders those who wait can take the stretches of a result.
func countOrders(wishes [][]int, gets []int, taken stretches) int {
	waiting, orders := 0, 0
	for holder, stretch := range gets {
		if taken[stretch] {
			continue
		}
		waiting++
		if isNext(wishes[holder], stretch, taken) {
			after := taken
			after[stretch] = true
			orders += countOrders(wishes, gets, after)
		}
	}
	if waiting == 0 {
		return 1
	}
	return orders
}
