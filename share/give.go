package share

import "slices"

// nobody stands where there is no finder.
const nobody = -1

// byTurns returns the division by turns.
func byTurns(values [][]int, order []int) division {
	d := divide(values, nil)
	left := only(len(values[0])) - 1
	for turn := 0; left != 0; turn++ {
		owner := order[turn%len(order)]
		thing := finder(values[owner]).dearest(left)
		d.give(thing, owner)
		left &^= only(thing)
	}
	return d
}

// dearest returns, of the things in a share, the first one that is worth most to a finder.
func (f finder) dearest(s share) int {
	dearest := -1
	for thing, value := range f {
		if s.has(thing) && (dearest < 0 || value > f[dearest]) {
			dearest = thing
		}
	}
	return dearest
}

// oneAfterOther returns the division that is found one after the other.
func oneAfterOther(values [][]int) division {
	d := divide(values, nil)
	for thing := range values[0] {
		owner := d.unenvied()
		for owner == nobody {
			// The members of a ring gain, and nobody else loses, so this comes to an end.
			d.turn(d.ring())
			owner = d.unenvied()
		}
		d.give(thing, owner)
	}
	return d
}

// unenvied returns the smallest finder whom nobody envies, or nobody.
func (d division) unenvied() int {
	for one := range d.shares {
		if d.envier(one) == nobody {
			return one
		}
	}
	return nobody
}

// envier returns the smallest finder who envies another one, or nobody.
func (d division) envier(other int) int {
	for pair := range d.pairs(finder.envies) {
		if pair[1] == other {
			return pair[0]
		}
	}
	return nobody
}

// ring returns finders each of whom envies the one before, and the first one the last one. Everybody must be envied.
func (d division) ring() []int {
	var way []int
	next := 0
	for !slices.Contains(way, next) {
		way = append(way, next)
		next = d.envier(next)
	}
	return way[slices.Index(way, next):]
}

// turn gives each member of a ring the share of the one before, and the first one that of the last one.
func (d division) turn(ring []int) {
	shares := slices.Clone(d.shares)
	before := ring[len(ring)-1]
	for _, one := range ring {
		d.shares[one] = shares[before]
		before = one
	}
}
