package wash

import (
	"iter"
	"slices"
)

// open is where a half that is begun carries things from a place for which this is not settled yet.
const open = -1

// halves yields all halves of a tide in ascending order. Each has its own memory.
func halves(tide []int) iter.Seq[[]int] {
	return func(yield func([]int) bool) {
		settle(tide, slices.Repeat([]int{open}, len(tide)), yield)
	}
}

// settle yields, in ascending order, all halves that carry things as a half that is begun does. It returns whether more of
// them are wanted.
func settle(tide, begun []int, yield func([]int) bool) bool {
	from := slices.Index(begun, open)
	if from < 0 {
		return yield(begun)
	}
	for to := range tide {
		longer, fits := carry(tide, begun, from, to)
		if fits && !settle(tide, longer, yield) {
			return false
		}
	}
	return true
}

// carry lets a half that is begun carry things from one place to another one, and goes on with what this settles: from
// there, it carries them to where the tide carries them from the first place. It returns whether all of this fits.
//
// It need not look whether two places are carried to one: then things must go on from there to two places, and that does
// not fit.
func carry(tide, begun []int, from, to int) ([]int, bool) {
	longer := slices.Clone(begun)
	for longer[from] == open {
		longer[from] = to
		from, to = to, tide[from]
	}
	return longer, longer[from] == to
}
