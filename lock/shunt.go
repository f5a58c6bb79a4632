package lock

import "bellarmine/api"

// The letters of moves.
const (
	in  = 'i'
	out = 'o'
)

// done is told of each move: its letter, and the barge that it moves.
type done func(letter byte, barge int)

// letters returns what adds the letter of each move.
func letters(moves *[]byte) done {
	return func(letter byte, _ int) { *moves = append(*moves, letter) }
}

// leavers returns what adds each barge that leaves.
func leavers(left *[]int) done {
	return func(letter byte, barge int) {
		if letter == out {
			*left = append(*left, barge)
		}
	}
}

// pass makes a pass.
func pass(order []int, tell done) {
	var b basin[int]
	for _, barge := range order {
		for !b.isEmpty() && b.last() < barge {
			tell(out, b.take())
		}
		b.bring(barge)
		tell(in, barge)
	}
	for !b.isEmpty() {
		tell(out, b.take())
	}
}

// passed returns the order in which barges leave in a pass.
func passed(order []int) []int {
	var left []int
	pass(order, leavers(&left))
	return left
}

// carryOut carries out moves, up to the first one with an error.
func carryOut(coming []int, moves string, tell done) api.Errno {
	var b basin[int]
	for i := range len(moves) {
		switch moves[i] {
		case in:
			if len(coming) == 0 {
				return api.ErrNone
			}
			b.bring(coming[0])
			tell(in, coming[0])
			coming = coming[1:]
		case out:
			if b.isEmpty() {
				return api.ErrEmpty
			}
			tell(out, b.take())
		default:
			return api.ErrForm
		}
	}
	if len(coming) > 0 || !b.isEmpty() {
		return api.ErrOpen
	}
	return api.OK
}

// fetch brings each barge that comes into its one of two basins, and takes out the barge that is wanted next as soon as it
// is the last one in a basin. It returns whether all barges leave in the order that is wanted.
//
// If other moves lead to that order, these do, too: what is brought in above the barge that is wanted next bars it for
// ever, so that waiting never helps, and what is taken out instead leaves too early.
func fetch(coming, wanted, into []int, tell done) bool {
	var basins [2]basin[int]
	for place, barge := range coming {
		basins[into[place]].bring(barge)
		tell(in, barge)
		for len(wanted) > 0 && takeLast(basins[:], wanted[0]) {
			tell(out, wanted[0])
			wanted = wanted[1:]
		}
	}
	return len(wanted) == 0
}

// takeLast takes a barge out of the basin in which it is the last one. It returns whether there is such a basin.
func takeLast(basins []basin[int], barge int) bool {
	for i := range basins {
		b := &basins[i]
		if !b.isEmpty() && b.last() == barge {
			b.take()
			return true
		}
	}
	return false
}

// canAscend returns whether barges, each brought into its one of two basins, can leave in the ascending order.
func canAscend(order, into []int) bool {
	return fetch(order, upTo(len(order)), into, func(byte, int) {})
}
