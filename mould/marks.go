package mould

import "math/bits"

// bearers is what belongs to a mark: the casts that have it, each of them as the bit of its index.
type bearers struct{ casts uint }

// count returns how many casts have a mark.
func (b bearers) count() int { return bits.OnesCount(b.casts) }

// within returns whether each cast that has a mark has another one, too.
func (b bearers) within(other bearers) bool { return b.casts&^other.casts == 0 }

// clash returns whether two marks clash.
func (b bearers) clash(other bearers) bool {
	return b.casts&other.casts != 0 && !b.within(other) && !other.within(b)
}

// mark is a mark of some casts.
type mark struct {
	number int
	bearers
}

// marksOf returns all marks, by their numbers.
func marksOf(marks int, casts []int) []mark {
	all := make([]mark, marks)
	for number := range all {
		all[number].number = number
		for i, cast := range casts {
			if has(cast, number) {
				all[number].casts |= 1 << i
			}
		}
	}
	return all
}

// has returns whether a cast has a mark.
func has(cast, mark int) bool { return cast&(1<<mark) != 0 }

// firstClash returns the first two marks that clash, and whether there are any.
func firstClash(all []mark) (one, two int, clash bool) {
	for i, m := range all {
		for _, other := range all[i+1:] {
			if m.clash(other.bearers) {
				return m.number, other.number, true
			}
		}
	}
	return 0, 0, false
}

// honest returns whether casts are honest: by P6.7 they are just if no two marks clash.
func honest(marks int, casts []int) bool {
	_, _, clash := firstClash(marksOf(marks, casts))
	return !clash
}

// follows returns whether a mark arose after another one, just after it or later.
func (m mark) follows(other mark) bool {
	if m.bearers == other.bearers {
		return m.number > other.number
	}
	return m.within(other.bearers)
}

// after returns the number of the mark just after which a mark arose, or -1.
func (m mark) after(all []mark) int {
	none := mark{number: -1}
	nearest := none
	if m.count() == 0 {
		return nearest.number
	}
	for _, other := range all {
		// The numbers ascend, so of several marks that as few casts have the greatest one stays.
		if m.follows(other) && (nearest == none || other.count() <= nearest.count()) {
			nearest = other
		}
	}
	return nearest.number
}

// originOf returns the origin of the marks of honest casts.
func originOf(all []mark) []int {
	var origin []int
	for _, m := range all {
		origin = append(origin, m.after(all))
	}
	return origin
}

// pathOf returns the marks of a cast that fits an origin, in the order in which they arose.
func pathOf(origin []int, cast int) []int {
	var path []int
	for mark := next(origin, cast, -1); mark >= 0; mark = next(origin, cast, mark) {
		path = append(path, mark)
	}
	return path
}

// next returns the mark of a cast that arose after a given one, or -1.
func next(origin []int, cast, before int) int {
	for mark, after := range origin {
		if after == before && has(cast, mark) {
			return mark
		}
	}
	return -1
}
