package sherd

import "slices"

// part tells of the greatest plans of a part of a rim how many joins each of them has, and how many plans there are.
type part struct{ joins, plans int }

// or returns what is known of the greatest of some plans and some others.
func (p part) or(other part) part {
	switch {
	case p.joins > other.joins:
		return p
	case p.joins < other.joins:
		return other
	}
	return part{p.joins, p.plans + other.plans}
}

// noJoin is not a join of any rim.
var noJoin = [2]int{-1, -1}

// plans knows the greatest plans of all parts of a rim that do without one join.
type plans struct {
	letters []rune
	without [2]int
	// parts has each part by the edge with which it begins, and by the edge before which it ends.
	parts [MaxEdges + 1][MaxEdges + 1]part
}

// plansOf looks at all parts of a rim, a part behind all those that are within it.
func plansOf(letters []rune, without [2]int) *plans {
	p := &plans{letters: letters, without: without}
	for from := len(letters); from >= 0; from-- {
		for to := from; to <= len(letters); to++ {
			p.parts[from][to] = p.look(from, to)
		}
	}
	return p
}

// look returns what is known of a part. In each of its plans the first edge is either free or joined with one other
// edge, so that no plan is counted twice.
func (p *plans) look(from, to int) part {
	if from == to {
		return part{joins: 0, plans: 1}
	}
	best := p.parts[from+1][to]
	for with := from + 1; with < to; with++ {
		if p.may(from, with) {
			best = best.or(p.joined(from, with, to))
		}
	}
	return best
}

// may returns whether two edges may be joined.
func (p *plans) may(a, b int) bool {
	return p.letters[a] == fitting(p.letters[b]) && p.without != [2]int{a, b}
}

// joined returns what is known of the plans of a part that join its first edge with a given one. No join crosses this
// one, so each plan of what lies between the two goes with each plan of what lies behind them.
func (p *plans) joined(from, with, to int) part {
	between, behind := p.parts[from+1][with], p.parts[with+1][to]
	return part{1 + between.joins + behind.joins, between.plans * behind.plans}
}

// whole returns what is known of the whole rim.
func (p *plans) whole() part { return p.parts[0][len(p.letters)] }

// first returns the first of the greatest plans of a part. A plan that joins the first edge is smaller than one that
// does not, and the smaller the nearer the other edge is; its joins between the two come before those behind them.
func (p *plans) first(from, to int) [][2]int {
	if from == to {
		return nil
	}
	for with := from + 1; with < to; with++ {
		if p.may(from, with) && p.joined(from, with, to).joins == p.parts[from][to].joins {
			return slices.Concat([][2]int{{from, with}}, p.first(from+1, with), p.first(with+1, to))
		}
	}
	return p.first(from+1, to)
}

// forced returns the joins of all greatest plans: those of one of them without which no plan is as great.
func forced(letters []rune) [][2]int {
	all := plansOf(letters, noJoin)
	joins := all.first(0, len(letters))
	return slices.DeleteFunc(joins, func(join [2]int) bool {
		return plansOf(letters, join).whole().joins == all.whole().joins
	})
}
