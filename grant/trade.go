package grant

import "slices"

// nobody stands where there is no holder.
const nobody = -1

// presence tells whether a holder is still there.
type presence interface {
	// stretch is the one that the holder has now.
	stretch() int
}

// there is a holder who has not exchanged yet.
type there struct{ holds int }

// gone is a holder who went with a stretch.
type gone struct{ gets, round int }

func (t there) stretch() int { return t.holds }

func (g gone) stretch() int { return g.gets }

// market is where holders exchange what they have.
type market struct {
	wishes  [][]int
	holders []presence
	rings   [][]int
}

// trade returns a market after all rounds.
func trade(wishes [][]int, holds []int) *market {
	m := &market{wishes: wishes}
	for _, stretch := range holds {
		m.holders = append(m.holders, there{holds: stretch})
	}
	rings := m.ringsNow()
	for round := 1; len(rings) > 0; round++ {
		for _, ring := range rings {
			m.leave(ring, round)
		}
		m.rings = append(m.rings, rings...)
		rings = m.ringsNow()
	}
	return m
}

// owners returns for each stretch the holder who is there and has it, or nobody.
func (m *market) owners() [MaxHolders]int {
	var owners [MaxHolders]int
	for holder, p := range m.holders {
		switch p := p.(type) {
		case there:
			owners[p.holds] = holder
		case gone:
			owners[p.gets] = nobody
		}
	}
	return owners
}

// pointers returns for each holder who is there the one to whom this one points, and for the others nobody.
func (m *market) pointers() [MaxHolders]int {
	owners := m.owners()
	var pointers [MaxHolders]int
	for holder, p := range m.holders {
		switch p.(type) {
		case there:
			pointers[holder] = firstOwner(m.wishes[holder], owners)
		case gone:
			pointers[holder] = nobody
		}
	}
	return pointers
}

// firstOwner returns the owner of the best stretch that has one.
func firstOwner(wishes []int, owners [MaxHolders]int) int {
	for _, stretch := range wishes {
		if owners[stretch] != nobody {
			return owners[stretch]
		}
	}
	return nobody
}

// ringsNow returns the rings of those who are there. There are none only if nobody is.
func (m *market) ringsNow() [][]int {
	pointers := m.pointers()
	var rings [][]int
	for holder := range m.holders {
		if ring := ringFrom(pointers, holder); len(ring) > 0 {
			rings = append(rings, ring)
		}
	}
	return rings
}

// ringFrom returns the ring whose smallest member a holder is, or nothing if there is none.
func ringFrom(pointers [MaxHolders]int, first int) []int {
	ring := []int{first}
	for next := pointers[first]; next != first; next = pointers[next] {
		// A ring with a smaller member begins there; nobody is smaller, too.
		if next < first || slices.Contains(ring, next) {
			return nil
		}
		ring = append(ring, next)
	}
	return ring
}

// leave lets the members of a ring exchange and go.
func (m *market) leave(ring []int, round int) {
	before := slices.Clone(m.holders)
	for i, holder := range ring {
		next := ring[(i+1)%len(ring)]
		m.holders[holder] = gone{gets: before[next].stretch(), round: round}
	}
}

// gets returns what each holder has.
func (m *market) gets() []int {
	var gets []int
	for _, p := range m.holders {
		gets = append(gets, p.stretch())
	}
	return gets
}

// rounds returns in which round each holder went.
func (m *market) rounds() []int {
	rounds := make([]int, len(m.holders))
	for holder, p := range m.holders {
		if g, ok := p.(gone); ok {
			rounds[holder] = g.round
		}
	}
	return rounds
}
