package grant

import (
	"cmp"
	"slices"
)

// stretches says for each stretch whether it is among some.
type stretches [MaxHolders]bool

// offer is a result that holders may take, or refuse and exchange what they hold.
type offer struct {
	wishes [][]int
	holds  []int
	ranks  []int
}

func newOffer(wishes [][]int, holds, gets []int) *offer {
	return &offer{wishes: wishes, holds: holds, ranks: ranks(wishes, gets)}
}

// tempts returns whether a group would exchange against the offer.
func (o *offer) tempts(group []int) bool {
	var free stretches
	for _, holder := range group {
		free[o.holds[holder]] = true
	}
	return o.divides(group, free, false)
}

// divides returns whether members can divide free stretches, as many as they are, so that nobody of them gets a less
// liked one than by the offer; somebody must get a better one, unless somebody of the group has one already.
func (o *offer) divides(members []int, free stretches, better bool) bool {
	if len(members) == 0 {
		return better
	}
	holder := members[0]
	for rank, stretch := range o.wishes[holder][:o.ranks[holder]+1] {
		if !free[stretch] {
			continue
		}
		rest := free
		rest[stretch] = false
		if o.divides(members[1:], rest, better || rank < o.ranks[holder]) {
			return true
		}
	}
	return false
}

// groups returns all groups of n holders: those with fewer members first, and of these the smaller lists first.
func groups(n int) [][]int {
	var all [][]int
	for set := 1; set < 1<<n; set++ {
		all = append(all, members(set, n))
	}
	slices.SortFunc(all, func(a, b []int) int {
		return cmp.Or(cmp.Compare(len(a), len(b)), slices.Compare(a, b))
	})
	return all
}

// members returns the holders whose bits are set.
func members(set, n int) []int {
	var group []int
	for holder := range n {
		if set>>holder&1 == 1 {
			group = append(group, holder)
		}
	}
	return group
}
