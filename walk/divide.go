package walk

// divide returns the first list of inspectors who divide the stretches, of those with the fewest.
func divide(tides []int) []int {
	groups, inspectors := make([]int, len(tides)), 1
search:
	for !eachCan(tides, groups, inspectors) {
		for stretch := len(groups) - 1; stretch >= 0; stretch-- {
			if groups[stretch]+1 < inspectors {
				groups[stretch]++
				continue search
			}
			groups[stretch] = 0
		}
		// An inspector for each stretch is always enough.
		inspectors++
	}
	return groups
}

// eachCan returns whether each of so many inspectors can go on for ever; one without stretches cannot.
func eachCan(tides, groups []int, inspectors int) bool {
	for inspector := range inspectors {
		if !look(own(tides, groups, inspector)).can() {
			return false
		}
	}
	return true
}

// own returns the numbers of an inspector's stretches.
func own(tides, groups []int, inspector int) []int {
	var numbers []int
	for stretch, number := range tides {
		if groups[stretch] == inspector {
			numbers = append(numbers, number)
		}
	}
	return numbers
}
