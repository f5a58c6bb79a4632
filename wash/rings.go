package wash

import "slices"

// ringFrom returns the places to which a thing comes, from where it is on, until it is back.
func ringFrom(tide []int, from int) []int {
	ring := []int{from}
	for place := tide[from]; place != from; place = tide[place] {
		ring = append(ring, place)
	}
	return ring
}

// around returns how far some tides, forward or back, carry a thing along a ring.
func around(tides, length int) int { return (tides%length + length) % length }

// ringsOf returns all rings in ascending order.
func ringsOf(tide []int) [][]int {
	var rings [][]int
	for place := range tide {
		if ring := ringFrom(tide, place); slices.Min(ring) == place {
			rings = append(rings, ring)
		}
	}
	return rings
}

// The lengths that rings can have.
const (
	one = iota + 1
	two
	three
	four
	five
	six
	seven
)

// lengths is how many rings have each length, kept by the numbers of lengths.
type lengths [seven + 1]int

func lengthsOf(tide []int) lengths {
	var l lengths
	for _, ring := range ringsOf(tide) {
		l[len(ring)]++
	}
	return l
}

// reasons returns, in ascending order, all even lengths that an odd number of rings have. A half of a tide puts rings with
// an even number of places into pairs, so each of these lengths is a reason why there is none, and without them there is
// one.
func (l lengths) reasons() []int {
	var reasons []int
	for _, even := range [...]int{two, four, six} {
		if l[even]%2 == 1 {
			reasons = append(reasons, even)
		}
	}
	return reasons
}

// odd returns whether an odd number of rings have an even number of places: lengths that an even number of rings have do
// not matter for it.
func (l lengths) odd() bool { return len(l.reasons())%2 == 1 }

// back returns the smallest number above 0 that all lengths of rings divide.
func (l lengths) back() int {
	back := 1
	for !l.divide(back) {
		back++
	}
	return back
}

// divide returns whether all lengths of rings divide a number.
func (l lengths) divide(number int) bool {
	for length := one; length <= seven; length++ {
		if l[length] > 0 && number%length != 0 {
			return false
		}
	}
	return true
}

// friends returns how many tides exchange with one that has such rings. They carry rings to rings that are as long: one
// after the other, each to any ring that is left, and so that its first place comes to any place of that ring, after which
// the others have no choice.
func (l lengths) friends() int {
	friends := 1
	for length := one; length <= seven; length++ {
		for left := l[length]; left > 0; left-- {
			friends *= left * length
		}
	}
	return friends
}
