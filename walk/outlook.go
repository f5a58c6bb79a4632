package walk

import "slices"

// forEver stands for a number of tides that has no end.
const forEver = -1

// outlook is what is known of how long walks can go on.
type outlook struct {
	tides []int
	// known is by what is left: for how many more tides a walk can go on at most, or forEver.
	known map[left]int
}

// look returns an outlook of which nothing is known so far.
func look(tides []int) outlook { return outlook{tides: tides, known: map[left]int{}} }

// can returns whether the walk without tides can go on for ever. Without stretches there is nowhere to go.
func (o outlook) can() bool { return o.more(start(o.tides)) == forEver }

// more returns for how many more tides a walk can go on at most, or forEver.
func (o outlook) more(l left) int {
	if tides, known := o.known[l]; known {
		return tides
	}
	// A walk that comes back here can do so again and again.
	o.known[l] = forEver
	most := 0
	for stretch := range o.tides {
		next, good := l.meet(o.tides, stretch)
		if !good {
			continue
		}
		tides := o.more(next)
		if tides == forEver {
			return forEver
		}
		most = max(most, 1+tides)
	}
	o.known[l] = most
	return most
}

// next returns the first stretch that can be met so that a walk can go on for ever, and what is left then. Before it the
// walk must be able to go on for ever.
func (o outlook) next(l left) (int, left) {
	for stretch := range o.tides {
		next, good := l.meet(o.tides, stretch)
		if good && o.more(next) == forEver {
			return stretch, next
		}
	}
	return 0, l
}

// walk returns so many tides of the first walk that can go on for ever.
func (o outlook) walk(many int) []int {
	var walk []int
	now := start(o.tides)
	for range many {
		stretch, after := o.next(now)
		walk = append(walk, stretch)
		now = after
	}
	return walk
}

// loop returns the first walk that can go on for ever, up to where it begins to repeat itself, and what it repeats.
func (o outlook) loop() (begin, loop []int) {
	var walk []int
	lefts := []left{start(o.tides)}
	same := 0
search:
	for {
		stretch, now := o.next(lefts[len(lefts)-1])
		walk = append(walk, stretch)
		for tides, before := range lefts {
			if before == now {
				same = tides
				break search
			}
		}
		lefts = append(lefts, now)
	}
	// The tides of the loop lie behind begin, and must not be within its reach.
	return walk[:same:same], slices.Clone(walk[same:])
}
