package chart

import "bellarmine/api"

// maxEnds is the greatest number of ends.
const maxEnds = 2 * MaxLines

// otherEnds is the other end of each end.
var otherEnds = [maxEnds]int{1, 0, 3, 2, 5, 4, 7, 6, 9, 8, 11, 10, 13, 12, 15, 14}

// drawing is a map by its ends: at which point each of them lies, and which ends come after it and before it there.
type drawing struct {
	points, ends      int
	at, after, before [maxEnds]int
}

// draw returns the drawing of a map, or the error of the map.
func draw(m Map) (drawing, api.Errno) {
	if e := Check(m); e != api.OK {
		return drawing{}, e
	}
	d := drawing{points: len(m.Points)}
	for point, ends := range m.Points {
		last := ends[len(ends)-1]
		for _, end := range ends {
			d.at[end] = point
			d.after[last], d.before[end] = end, last
			last = end
		}
		d.ends += len(ends)
	}
	return d, api.OK
}

// lists returns the lists in which all ends stand if each of them has a next one: each list from its smallest end on, in
// the order of these. No two ends may have the same next one.
func (d drawing) lists(next [maxEnds]int) [][]int {
	var all [][]int
	var seen [maxEnds]bool
	for smallest := range d.ends {
		var list []int
		for end := smallest; !seen[end]; end = next[end] {
			seen[end] = true
			list = append(list, end)
		}
		if len(list) > 0 {
			all = append(all, list)
		}
	}
	return all
}

// faces returns all faces.
func (d drawing) faces() [][]int {
	var next [maxEnds]int
	for end := range d.ends {
		next[end] = d.after[otherEnds[end]]
	}
	return d.lists(next)
}

func (d drawing) lines() int { return d.ends / 2 }

// line returns the two points of a line.
func (d drawing) line(line int) (one, other int) {
	end := 2 * line
	return d.at[end], d.at[otherEnds[end]]
}

// parts returns the number of parts.
func (d drawing) parts() int {
	parts := d.points
	partOf := make([]int, d.points)
	for point := range partOf {
		partOf[point] = point
	}
	for line := range d.lines() {
		one, other := d.line(line)
		kept, gone := partOf[one], partOf[other]
		if kept == gone {
			continue
		}
		parts--
		for point, part := range partOf {
			if part == gone {
				partOf[point] = kept
			}
		}
	}
	return parts
}

// leaveOut returns a map without a line, its lists in their order.
func leaveOut(m Map, line int) Map {
	var left Map
	for _, ends := range m.Points {
		var point []int
		for _, end := range ends {
			switch {
			case end/2 < line:
				point = append(point, end)
			case end/2 > line:
				point = append(point, end-2)
			}
		}
		if len(point) > 0 {
			left.Points = append(left.Points, point)
		}
	}
	return left
}
