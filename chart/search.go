package chart

import "slices"

// first returns the first list of so many numbers from 0 to below a bound of which each beginning fits, and whether there
// is one.
func first(length, bound int, fits func(begin []int) bool) ([]int, bool) {
	list := make([]int, length)
	for i := 0; i < length; i++ {
	again:
		for list[i] < bound && !fits(list[:i+1]) {
			list[i]++
		}
		if list[i] < bound {
			continue
		}
		if i == 0 {
			return nil, false
		}
		// No number fits here: the one before becomes greater.
		list[i] = 0
		i--
		list[i]++
		goto again
	}
	return list, true
}

// proper returns whether colours are proper, as far as points have one.
func (d drawing) proper(colours []int) bool {
	for line := range d.lines() {
		one, other := d.line(line)
		if max(one, other) < len(colours) && colours[one] == colours[other] {
			return false
		}
	}
	return true
}

// colour returns the fewest colours, and the first proper ones of them. No line may have both its ends at one point.
func (d drawing) colour() (int, []int) {
	for fewest := 0; ; fewest++ {
		if colours, is := first(d.points, fewest, d.proper); is {
			return fewest, colours
		}
	}
}

// joined returns whether two points are those of a line.
func (d drawing) joined(one, other int) bool {
	for end := range d.ends {
		if d.at[end] == one && d.at[otherEnds[end]] == other {
			return true
		}
	}
	return false
}

// goesOn returns whether the last one of some points is joined with the one before it, and is none of those before.
func (d drawing) goesOn(points []int) bool {
	last := len(points) - 1
	if last == 0 {
		return true
	}
	return d.joined(points[last-1], points[last]) && !slices.Contains(points[:last], points[last])
}

// oddRing returns the first one of the shortest rings of an odd number of points, and whether there is one. No line may
// have both its ends at one point.
func (d drawing) oddRing() ([]int, bool) {
	for length := 3; length <= d.points; length += 2 {
		ring, is := first(length, d.points, func(begin []int) bool {
			return d.goesOn(begin) && (len(begin) < length || d.joined(begin[length-1], begin[0]))
		})
		if is {
			return ring, true
		}
	}
	return nil, false
}
