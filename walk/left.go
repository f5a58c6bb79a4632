package walk

import "slices"

// left is what is left after a good walk: in how many tides at most, from the next one on, each stretch has to be met.
// Behind the last stretch it is 0.
type left [MaxStretches]int

// start returns what is left before the first tide.
func start(tides []int) left {
	var l left
	copy(l[:], tides)
	return l
}

// meet returns what is left after one more tide, at which a stretch is met, and whether none is missed.
func (l left) meet(tides []int, stretch int) (left, bool) {
	for other := range tides {
		l[other]--
	}
	l[stretch] = tides[stretch]
	return l, !slices.Contains(l[:len(tides)], 0)
}

// follow returns what is left after a walk, and whether the walk is good.
func follow(tides, walk []int) (left, bool) {
	l := start(tides)
	for _, stretch := range walk {
		next, good := l.meet(tides, stretch)
		if !good {
			return left{}, false
		}
		l = next
	}
	return l, true
}
