package sherd

// isLetter returns whether an edge can have a letter.
func isLetter(letter rune) bool {
	return letter >= 'a' && letter <= 'j' || letter >= 'A' && letter <= 'J'
}

// fitting returns the letter that fits a letter.
func fitting(letter rune) rune {
	if letter >= 'a' {
		return letter - 'a' + 'A'
	}
	return letter - 'A' + 'a'
}

// lettersOf returns the letters of a rim, by their edges.
func lettersOf(rim string) []rune {
	var letters []rune
	for _, letter := range rim {
		letters = append(letters, letter)
	}
	return letters
}

// takeAway returns the pairs of edges that are taken away, in this order, and the edges that are left.
func takeAway(letters []rune) (pairs [][2]int, left []int) {
	for edge, letter := range letters {
		// No neighbours among the edges that are left so far fit, so the last one of them and this one are the first
		// two that can.
		last := len(left) - 1
		if last < 0 || letters[left[last]] != fitting(letter) {
			left = append(left, edge)
			continue
		}
		pairs = append(pairs, [2]int{left[last], edge})
		left = left[:last]
	}
	return pairs, left
}

// restOf returns the rest of a rim.
func restOf(letters []rune) []rune {
	_, left := takeAway(letters)
	var rest []rune
	for _, edge := range left {
		rest = append(rest, letters[edge])
	}
	return rest
}

// coreOf returns the core of a rim.
func coreOf(rim string) string {
	core := restOf(lettersOf(rim))
	for len(core) >= 2 && core[0] == fitting(core[len(core)-1]) {
		core = core[1 : len(core)-1]
	}
	return string(core)
}
