package share

import (
	"iter"
	"slices"
)

// share is the things that a finder gets, each of them as the bit of its number.
type share uint

// only returns the share of one thing.
func only(thing int) share { return 1 << thing }

func (s share) has(thing int) bool { return s&only(thing) != 0 }

// lessOne returns what is left of a share if one thing is taken out of it, for each of its things.
func (s share) lessOne() []share {
	var rests []share
	for thing := range MaxThings {
		if s.has(thing) {
			rests = append(rests, s&^only(thing))
		}
	}
	return rests
}

// ask asks a question about shares, and returns the answer for each of them.
func ask[A any](question func(share) A, shares ...share) []A {
	answers := make([]A, len(shares))
	for i, s := range shares {
		answers[i] = question(s)
	}
	return answers
}

// finder is what each thing is worth to a finder.
type finder []int

// worth returns what a share is worth to a finder.
func (f finder) worth(s share) int {
	sum := 0
	for thing, value := range f {
		if s.has(thing) {
			sum += value
		}
	}
	return sum
}

// envies returns the question whether a finder who has a share envies another one who has the share asked about.
func (f finder) envies(own share) func(share) bool {
	worth := f.worth(own)
	return func(other share) bool { return f.worth(other) > worth }
}

// enviesByMore returns the question whether it is so by more than one thing.
func (f finder) enviesByMore(own share) func(share) bool {
	envies := f.envies(own)
	return func(other share) bool {
		rests := other.lessOne()
		return len(rests) > 0 && !slices.Contains(ask(envies, rests...), false)
	}
}

// division is the values of finders, and the shares that they have.
type division struct {
	values [][]int
	shares []share
}

// divide returns the division of things that have owners.
func divide(values [][]int, owners []int) division {
	d := division{values: values, shares: make([]share, len(values))}
	for thing, owner := range owners {
		d.give(thing, owner)
	}
	return d
}

// give gives a thing to a finder.
func (d division) give(thing, owner int) { d.shares[owner] |= only(thing) }

// owners returns who has each thing. All things must have been given.
func (d division) owners() []int {
	owners := make([]int, len(d.values[0]))
	for thing := range owners {
		owners[thing] = slices.IndexFunc(d.shares, func(s share) bool { return s.has(thing) })
	}
	return owners
}

// own returns what the own share is worth to each finder.
func (d division) own() []int {
	worths := make([]int, len(d.shares))
	for i, s := range d.shares {
		worths[i] = finder(d.values[i]).worth(s)
	}
	return worths
}

// pairs yields, in ascending order, all pairs of a finder and another one about whose share the answer of the first one
// is yes.
func (d division) pairs(question func(f finder, own share) func(share) bool) iter.Seq[[2]int] {
	return func(yield func([2]int) bool) {
		for one, own := range d.shares {
			for other, yes := range ask(question(d.values[one], own), d.shares...) {
				if yes && !yield([2]int{one, other}) {
					return
				}
			}
		}
	}
}

// first returns the first of these pairs, and whether there is one.
func (d division) first(question func(f finder, own share) func(share) bool) ([2]int, bool) {
	for pair := range d.pairs(question) {
		return pair, true
	}
	return [2]int{}, false
}

func (d division) isFair() bool {
	_, envy := d.first(finder.envies)
	return !envy
}
