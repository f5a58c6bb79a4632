package chart_test

import (
	"iter"
	"slices"
	"testing"

	"bellarmine/api"
	"bellarmine/chart"
)

// In this file the definitions of the chapter are spelt out, by trying everything where they ask for the best, and held
// against the functions.

// triedCheck goes along all points and numbers.
func triedCheck(m chart.Map) api.Errno {
	all := slices.Concat(m.Points...)
	if len(all) > 16 {
		return api.ErrMany
	}
	at := 0
	for _, point := range m.Points {
		if len(point) == 0 {
			return api.ErrEmpty
		}
		for _, end := range point {
			if !slices.Contains(upTo(len(all)), end) {
				return api.ErrNone
			}
			if slices.Contains(all[:at], end) {
				return api.ErrTwice
			}
			at++
		}
	}
	if len(all)%2 == 1 {
		return api.ErrShape
	}
	return api.OK
}

func otherEnd(end int) int {
	if end%2 == 0 {
		return end + 1
	}
	return end - 1
}

func linesOf(m chart.Map) int { return len(slices.Concat(m.Points...)) / 2 }

// place returns at which point an end lies, and in which place of its list.
func place(m chart.Map, end int) (point, at int) {
	point = slices.IndexFunc(m.Points, func(ends []int) bool { return slices.Contains(ends, end) })
	return point, slices.Index(m.Points[point], end)
}

func triedAfter(m chart.Map, end int) int {
	point, at := place(m, end)
	if ends := m.Points[point]; at+1 < len(ends) {
		return ends[at+1]
	}
	return m.Points[point][0]
}

// differ returns whether no two numbers are the same.
func differ(numbers []int) bool {
	sorted := slices.Sorted(slices.Values(numbers))
	return len(slices.Compact(sorted)) == len(numbers)
}

// isFace returns whether ends are a face, told from its smallest end on.
func isFace(m chart.Map, ends []int) bool {
	if len(ends) == 0 || slices.Min(ends) != ends[0] {
		return false
	}
	for i, end := range ends[1:] {
		if end != triedAfter(m, otherEnd(ends[i])) {
			return false
		}
	}
	return ends[0] == triedAfter(m, otherEnd(ends[len(ends)-1])) && differ(ends)
}

// areFaces returns whether lists are all faces in their order: each end is in one of them.
func areFaces(m chart.Map, faces [][]int) bool {
	var smallest []int
	for _, face := range faces {
		if !isFace(m, face) {
			return false
		}
		smallest = append(smallest, face[0])
	}
	all := slices.Sorted(slices.Values(slices.Concat(faces...)))
	return slices.IsSorted(smallest) && slices.Equal(all, upTo(2*linesOf(m)))
}

// triedTidy begins each list with its smallest end, and sorts the lists.
func triedTidy(points [][]int) [][]int {
	var tidy [][]int
	for _, point := range points {
		at := slices.Index(point, slices.Min(point))
		tidy = append(tidy, slices.Concat(point[at:], point[:at]))
	}
	slices.SortFunc(tidy, slices.Compare[[]int])
	return tidy
}

func triedBack(points [][]int) [][]int {
	var back [][]int
	for _, point := range points {
		read := slices.Clone(point)
		slices.Reverse(read)
		back = append(back, read)
	}
	return triedTidy(back)
}

// triedWithout strikes out both ends of a line, and then gives the others the numbers that they have without them.
func triedWithout(m chart.Map, line int) [][]int {
	kept := slices.DeleteFunc(upTo(2*linesOf(m)), func(end int) bool { return end == 2*line || end == 2*line+1 })
	var points [][]int
	for _, point := range m.Points {
		var ends []int
		for _, end := range point {
			if number := slices.Index(kept, end); number >= 0 {
				ends = append(ends, number)
			}
		}
		if ends != nil {
			points = append(points, ends)
		}
	}
	return triedTidy(points)
}

// pointsOf returns the two points of each line.
func pointsOf(m chart.Map) [][2]int {
	var both [][2]int
	for line := range linesOf(m) {
		one, _ := place(m, 2*line)
		other, _ := place(m, 2*line+1)
		both = append(both, [2]int{one, other})
	}
	return both
}

func hasLoop(m chart.Map) bool {
	return slices.ContainsFunc(pointsOf(m), func(line [2]int) bool { return line[0] == line[1] })
}

// triedParts goes along lines from each point as far as it can: a part has one point from which none before it is reached.
func triedParts(m chart.Map) int {
	lines, parts := pointsOf(m), 0
	for point := range m.Points {
		reached := []int{point}
		for i := 0; i < len(reached); i++ {
			for _, line := range lines {
				for end, one := range line {
					if one == reached[i] && !slices.Contains(reached, line[1-end]) {
						reached = append(reached, line[1-end])
					}
				}
			}
		}
		if slices.Min(reached) == point {
			parts++
		}
	}
	return parts
}

// eachList yields all lists of so many numbers below a bound, in ascending order. They have the same memory.
func eachList(length, bound int) iter.Seq[[]int] {
	return func(yield func([]int) bool) {
		l := make([]int, length)
		for {
			if length > 0 && bound == 0 || !yield(l) {
				return
			}
			at := length - 1
			for ; at >= 0 && l[at] == bound-1; at-- {
				l[at] = 0
			}
			if at < 0 {
				return
			}
			l[at]++
		}
	}
}

func triedProper(lines [][2]int, colours []int) bool {
	for _, line := range lines {
		if colours[line[0]] == colours[line[1]] {
			return false
		}
	}
	return true
}

// triedColour returns the first proper colours for so few as there can be, and how many these are, by trying all. No line
// may have both its ends at one point.
func triedColour(m chart.Map) (int, []int) {
	lines := pointsOf(m)
	for number := 0; ; number++ {
		for colours := range eachList(len(m.Points), number) {
			if triedProper(lines, colours) {
				return number, slices.Clone(colours)
			}
		}
	}
}

// isRing returns whether points are a ring of an odd number of at least 3.
func isRing(m chart.Map, points []int) bool {
	if len(points) < 3 || len(points)%2 == 0 || !differ(points) {
		return false
	}
	lines := pointsOf(m)
	for i, point := range points {
		next := points[(i+1)%len(points)]
		if !slices.Contains(lines, [2]int{point, next}) && !slices.Contains(lines, [2]int{next, point}) {
			return false
		}
	}
	return true
}

// eachChoice yields all lists of so many different numbers below a bound, in ascending order.
func eachChoice(length, bound int) iter.Seq[[]int] {
	var more func(l []int, yield func([]int) bool) bool
	more = func(l []int, yield func([]int) bool) bool {
		if len(l) == length {
			return yield(l)
		}
		for number := range bound {
			if !slices.Contains(l, number) && !more(append(slices.Clone(l), number), yield) {
				return false
			}
		}
		return true
	}
	return func(yield func([]int) bool) { more(nil, yield) }
}

// triedOdd returns the first one of the shortest odd rings, by trying all lists of points. There must be one.
func triedOdd(m chart.Map) []int {
	for length := 3; ; length += 2 {
		for points := range eachChoice(length, len(m.Points)) {
			if isRing(m, points) {
				return points
			}
		}
	}
}

// series is a row of numbers: always the same one for the same start.
type series uint32

func (s *series) below(n int) int {
	*s = *s*1664525 + 1013904223
	return int(*s>>16) % n
}

// order returns a list of the numbers below n, each once.
func (s *series) order(n int) []int {
	l := upTo(n)
	for i := range l {
		j := i + s.below(n-i)
		l[i], l[j] = l[j], l[i]
	}
	return l
}

// insert returns ends with one more, in some place.
func (s *series) insert(ends []int, end int) []int {
	return slices.Insert(ends, s.below(len(ends)+1), end)
}

// joined returns a map whose lines have their ends anywhere around given points, of which there are so many; those without
// ends are left out.
func (s *series) joined(points int, lines [][2]int) chart.Map {
	all := make([][]int, points)
	for i, number := range s.order(len(lines)) {
		for end, point := range lines[i] {
			all[point] = s.insert(all[point], 2*number+end)
		}
	}
	return chart.Map{Points: slices.DeleteFunc(all, func(ends []int) bool { return len(ends) == 0 })}
}

// wild returns a map of groups of points, so many at most, and of lines between any points of a group. Some lines have
// both ends at one point if loops is true.
func (s *series) wild(groups, points, lines int, loops bool) chart.Map {
	var all [][2]int
	for range lines {
		first := points * s.below(groups)
		one := s.below(points)
		other := (one + 1 + s.below(points-1)) % points
		if loops && s.below(5) == 0 {
			other = one
		}
		all = append(all, [2]int{first + one, first + other})
	}
	return s.joined(groups*points, all)
}

// ringed returns a map of a ring of so many points, and of more lines between any two points.
func (s *series) ringed(ring, lines int) chart.Map {
	points := ring + s.below(2*(lines-ring)+1)
	numbers := s.order(points)
	var all [][2]int
	for i := range ring {
		all = append(all, [2]int{numbers[i], numbers[(i+1)%ring]})
	}
	for i := ring; i < lines; i++ {
		// The points behind the ring get a line each, as long as there are lines.
		one := min(i, points-1)
		all = append(all, [2]int{numbers[one], numbers[(one+1+s.below(points-1))%points]})
	}
	return s.joined(points, all)
}

// flat returns a flat map: each line is drawn within a face, from a point to itself, to another one, or to a new one; or
// as a new part. It often begins with four points that are all joined.
func (s *series) flat(lines int, loops bool) chart.Map {
	m := drawn()
	if lines >= 6 && s.below(3) == 0 {
		m = four()
	}
	for line := linesOf(m); line < lines; line++ {
		one, other := 2*line, 2*line+1
		kind := s.below(8)
		if line == 0 || kind == 0 {
			m.Points = append(m.Points, list(one), list(other))
			continue
		}
		face := faceOf(m, s.below(one))
		before := face[s.below(len(face))]
		if kind == 1 {
			m = insertBefore(m, before, one)
			m.Points = append(m.Points, list(other))
			continue
		}
		behind := face[s.below(len(face))]
		p, _ := place(m, before)
		q, _ := place(m, behind)
		if p == q && !loops {
			m = insertBefore(m, before, one)
			m.Points = append(m.Points, list(other))
			continue
		}
		m = insertBefore(insertBefore(m, before, one), behind, other)
	}
	return m
}

// faceOf returns the face that has an end, from this end on.
func faceOf(m chart.Map, end int) []int {
	face := list(end)
	for next := triedAfter(m, otherEnd(end)); next != end; next = triedAfter(m, otherEnd(next)) {
		face = append(face, next)
	}
	return face
}

// insertBefore returns a map with an end more, which another one comes after.
func insertBefore(m chart.Map, before, end int) chart.Map {
	more := copyOf(m)
	point, at := place(m, before)
	more.Points[point] = slices.Insert(more.Points[point], at, end)
	return more
}

// told returns a map whose points are told in another order, and from other ends on.
func (s *series) told(m chart.Map) chart.Map {
	var other chart.Map
	for _, point := range s.order(len(m.Points)) {
		ends := m.Points[point]
		at := s.below(len(ends))
		other.Points = append(other.Points, slices.Concat(ends[at:], ends[:at]))
	}
	return other
}

// eachSmallMap visits all maps of at most three lines: all orders of their ends, cut into points in all ways.
func eachSmallMap(visit func(m chart.Map)) {
	for lines := range 4 {
		for ends := range eachChoice(2*lines, 2*lines) {
			for cuts := range 1 << max(0, 2*lines-1) {
				var m chart.Map
				from := 0
				for at := 1; at <= len(ends); at++ {
					if at == len(ends) || cuts>>(at-1)&1 == 1 {
						m.Points = append(m.Points, slices.Clone(ends[from:at]))
						from = at
					}
				}
				visit(m)
			}
		}
	}
}

// eachMixedMap visits maps of up to 8 lines: wild ones, flat ones, and ones with rings.
func eachMixedMap(times int, visit func(s *series, m chart.Map)) {
	for lines := 1; lines <= chart.MaxLines; lines++ {
		for time := range times {
			s := series(10000*lines + time)
			loops := time%4 == 0
			visit(&s, s.wild(1, 2+s.below(2*lines), lines, loops))
			visit(&s, s.wild(1, 2+s.below(min(lines, 4)), lines, loops))
			visit(&s, s.wild(1+s.below(lines), 2+s.below(3), lines, loops))
			visit(&s, s.told(s.flat(lines, loops)))
			if lines >= 3 {
				visit(&s, s.ringed(3+s.below(lines-2), lines))
			}
			if lines >= 6 {
				visit(&s, s.full(lines))
			}
		}
	}
}

// full returns a map of four points that are all joined, and of more lines.
func (s *series) full(lines int) chart.Map {
	all := [][2]int{{0, 1}, {0, 2}, {0, 3}, {1, 2}, {1, 3}, {2, 3}}
	points := 4 + s.below(2*(lines-6)+1)
	for line := 6; line < lines; line++ {
		one := min(line-2, points-1)
		all = append(all, [2]int{one, (one + 1 + s.below(points-1)) % points})
	}
	return s.told(s.joined(points, all))
}

// eachMap visits all small maps, and mixed ones.
func eachMap(visit func(s *series, m chart.Map)) {
	small := series(1)
	eachSmallMap(func(m chart.Map) { visit(&small, m) })
	eachMixedMap(400, visit)
}

// P9.1: Check, for all lists of up to five numbers, cut into points in all ways, also into points without ends.
func TestCheckAsDefined(t *testing.T) {
	number := map[api.Errno]int{}
	check := func(m chart.Map) {
		want := triedCheck(m)
		if e := chart.Check(m); e != want {
			t.Fatalf("Check(%v) = %d, want %d", m, e, want)
		}
		number[want]++
	}
	for length := range 6 {
		for numbers := range eachList(length, length+2) {
			ends := make([]int, length)
			for i, end := range numbers {
				ends[i] = end - 1
			}
			for cuts := range eachList(2, length+1) {
				if cuts[0] <= cuts[1] {
					check(drawn(ends[:cuts[0]], ends[cuts[0]:cuts[1]], ends[cuts[1]:]))
				}
			}
			check(drawn(ends))
		}
	}
	eachMixedMap(50, func(s *series, m chart.Map) {
		check(m)
		m = copyOf(m)
		switch point := s.below(len(m.Points)); s.below(4) {
		case 0:
			m.Points[point] = s.insert(m.Points[point], s.below(20)-1)
		case 1:
			m.Points[point][s.below(len(m.Points[point]))] = s.below(20) - 1
		case 2:
			m.Points[point] = m.Points[point][1:]
		case 3:
			m.Points = slices.Insert(m.Points, point, list())
		}
		check(m)
	})
	for _, e := range []api.Errno{api.OK, api.ErrMany, api.ErrEmpty, api.ErrNone, api.ErrTwice, api.ErrShape} {
		if number[e] < 50 {
			t.Errorf("only %d maps with error %d", number[e], e)
		}
	}
}

// P9.1, P9.2: Tidy and Faces.
func TestFacesAsDefined(t *testing.T) {
	number := map[int]int{}
	eachMap(func(_ *series, m chart.Map) {
		if got, e := chart.Tidy(m); !sameLists(got.Points, triedTidy(m.Points)) || e != api.OK {
			t.Fatalf("Tidy(%v) = %v, %d, want %v", m, got, e, triedTidy(m.Points))
		}
		faces, e := chart.Faces(m)
		if !areFaces(m, faces) || e != api.OK {
			t.Fatalf("Faces(%v) = %v, %d: these are not all faces", m, faces, e)
		}
		number[len(faces)]++
	})
	for faces := 1; faces <= 7; faces++ {
		if number[faces] < 50 {
			t.Errorf("only %d maps with %d faces", number[faces], faces)
		}
	}
}

// P9.2, M1: of all lists of ends of up to three lines those are returned that are faces, and no others.
func TestAllFaces(t *testing.T) {
	eachSmallMap(func(m chart.Map) {
		if !sameLists(m.Points, triedTidy(m.Points)) {
			return
		}
		var want [][]int
		for smallest := range 2 * linesOf(m) {
			for length := 1; length <= 2*linesOf(m); length++ {
				for rest := range eachChoice(length-1, 2*linesOf(m)) {
					if ends := append(list(smallest), rest...); isFace(m, ends) {
						want = append(want, ends)
					}
				}
			}
		}
		if faces, e := chart.Faces(m); !sameLists(faces, want) || e != api.OK {
			t.Fatalf("Faces(%v) = %v, %d, want %v", m, faces, e, want)
		}
	})
}

// P9.3.
func TestGenusAsDefined(t *testing.T) {
	parts, genus := map[int]int{}, map[int]int{}
	eachMap(func(_ *series, m chart.Map) {
		want := triedParts(m)
		if n, e := chart.Parts(m); n != want || e != api.OK {
			t.Fatalf("Parts(%v) = %d, %d, want %d", m, n, e, want)
		}
		parts[want]++
		faces, _ := chart.Faces(m)
		twice := 2*want + linesOf(m) - len(m.Points) - len(faces)
		if n, e := chart.Genus(m); 2*n != twice || n < 0 || e != api.OK {
			t.Fatalf("Genus(%v) = %d, %d, want half of %d", m, n, e, twice)
		}
		genus[twice/2]++
	})
	for number := range 5 {
		if parts[number+1] < 50 || genus[min(number, 3)] < 50 {
			t.Errorf("maps by parts %v, by genus %v: too few", parts, genus)
		}
	}
}

// P9.4.
func TestDualAsDefined(t *testing.T) {
	eachMap(func(_ *series, m chart.Map) {
		dual, e := chart.Dual(m)
		if !areFaces(m, dual.Points) || e != api.OK {
			t.Fatalf("Dual(%v) = %v, %d: these are not all faces", m, dual, e)
		}
		if back, e := chart.Back(m); !sameLists(back.Points, triedBack(m.Points)) || e != api.OK {
			t.Fatalf("Back(%v) = %v, %d, want %v", m, back, e, triedBack(m.Points))
		}
	})
}

// P9.5.
func TestWithoutAsDefined(t *testing.T) {
	eachMap(func(_ *series, m chart.Map) {
		for line := -2; line <= chart.MaxLines; line++ {
			less, e := chart.Without(m, line)
			if line < 0 || line >= linesOf(m) {
				if len(less.Points) > 0 || e != api.ErrNone {
					t.Fatalf("Without(%v, %d) = %v, %d, want ErrNone", m, line, less, e)
				}
				continue
			}
			if want := triedWithout(m, line); !sameLists(less.Points, want) || e != api.OK {
				t.Fatalf("Without(%v, %d) = %v, %d, want %v", m, line, less, e, want)
			}
		}
	})
}

// P9.6.
func TestProperAsDefined(t *testing.T) {
	number := map[bool]int{}
	check := func(m chart.Map, colours []int) {
		want, wantError := false, api.OK
		switch {
		case len(colours) != len(m.Points):
			wantError = api.ErrShape
		case len(colours) > 0 && slices.Min(colours) < 0:
			wantError = api.ErrRange
		default:
			want = triedProper(pointsOf(m), colours)
		}
		if is, e := chart.Proper(m, colours); is != want || e != wantError {
			t.Fatalf("Proper(%v, %v) = %t, %d, want %t, %d", m, colours, is, e, want, wantError)
		}
		number[want]++
	}
	eachMap(func(s *series, m chart.Map) {
		for range 4 {
			length := len(m.Points)
			if s.below(8) == 0 {
				length = max(0, length+s.below(3)-1)
			}
			smallest := -s.below(8) / 7
			var colours []int
			for range length {
				colours = append(colours, smallest+s.below(5))
			}
			check(m, colours)
		}
		if _, colours, is := colourOf(t, m); is {
			check(m, colours)
			if len(colours) > 0 {
				changed := slices.Clone(colours)
				changed[s.below(len(changed))] = s.below(4)
				check(m, changed)
			}
		}
	})
	if min(number[true], number[false]) < 5000 {
		t.Errorf("colours by whether they are proper: %v: too few", number)
	}
}

// P9.7, P9.8; M3: no colours are fewer, none as few are before the first ones, and no odd ring is shorter, or before.
func TestColoursAsDefined(t *testing.T) {
	number, rings, lost := map[int]int{}, map[int]int{}, 0
	eachMap(func(_ *series, m chart.Map) {
		if hasLoop(m) {
			for _, c := range colourCalls(m) {
				if zero, e := c.run(); !zero || e != api.ErrLost {
					t.Fatalf("%s of %v returns error %d, zero value %t, want ErrLost", c.name, m, e, zero)
				}
			}
			lost++
			return
		}
		fewest, colours := triedColour(m)
		if n, e := chart.Fewest(m); n != fewest || e != api.OK {
			t.Fatalf("Fewest(%v) = %d, %d, want %d", m, n, e, fewest)
		}
		if l, e := chart.Colour(m); !slices.Equal(l, colours) || e != api.OK {
			t.Fatalf("Colour(%v) = %v, %d, want %v", m, l, e, colours)
		}
		number[fewest]++
		want, wantError := []int(nil), api.ErrClash
		if fewest > 2 {
			want, wantError = triedOdd(m), api.OK
			rings[len(want)]++
		}
		if l, e := chart.Odd(m); !slices.Equal(l, want) || e != wantError {
			t.Fatalf("Odd(%v) = %v, %d, want %v, %d", m, l, e, want, wantError)
		}
	})
	if min(number[2], number[3], number[4], lost) < 500 || min(rings[3], rings[5], rings[7]) < 50 {
		t.Errorf("maps by colours %v, by odd rings %v, without colours %d: too few", number, rings, lost)
	}
}
