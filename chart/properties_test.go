package chart_test

import (
	"slices"
	"testing"

	"bellarmine/api"
	"bellarmine/chart"
)

func tidyOf(t *testing.T, m chart.Map) chart.Map {
	t.Helper()
	tidy, e := chart.Tidy(m)
	if e != api.OK {
		t.Fatalf("Tidy(%v): error %d", m, e)
	}
	return tidy
}

func facesOf(t *testing.T, m chart.Map) [][]int {
	t.Helper()
	faces, e := chart.Faces(m)
	if e != api.OK {
		t.Fatalf("Faces(%v): error %d", m, e)
	}
	return faces
}

func partsOf(t *testing.T, m chart.Map) int {
	t.Helper()
	parts, e := chart.Parts(m)
	if e != api.OK {
		t.Fatalf("Parts(%v): error %d", m, e)
	}
	return parts
}

func genusOf(t *testing.T, m chart.Map) int {
	t.Helper()
	genus, e := chart.Genus(m)
	if e != api.OK {
		t.Fatalf("Genus(%v): error %d", m, e)
	}
	return genus
}

func dualOf(t *testing.T, m chart.Map) chart.Map {
	t.Helper()
	dual, e := chart.Dual(m)
	if e != api.OK {
		t.Fatalf("Dual(%v): error %d", m, e)
	}
	return dual
}

func backOf(t *testing.T, m chart.Map) chart.Map {
	t.Helper()
	back, e := chart.Back(m)
	if e != api.OK {
		t.Fatalf("Back(%v): error %d", m, e)
	}
	return back
}

func withoutOf(t *testing.T, m chart.Map, line int) chart.Map {
	t.Helper()
	less, e := chart.Without(m, line)
	if e != api.OK {
		t.Fatalf("Without(%v, %d): error %d", m, line, e)
	}
	return less
}

func properOf(t *testing.T, m chart.Map, colours []int) bool {
	t.Helper()
	is, e := chart.Proper(m, colours)
	if e != api.OK {
		t.Fatalf("Proper(%v, %v): error %d", m, colours, e)
	}
	return is
}

// colourOf returns the fewest colours and the first proper ones, and whether there are any.
func colourOf(t *testing.T, m chart.Map) (int, []int, bool) {
	t.Helper()
	fewest, e := chart.Fewest(m)
	colours, f := chart.Colour(m)
	if e != f || e != api.OK && e != api.ErrLost {
		t.Fatalf("Fewest(%v): error %d, Colour: error %d", m, e, f)
	}
	return fewest, colours, e == api.OK
}

// oddOf returns the first odd ring, and whether there is one. The map must have colours.
func oddOf(t *testing.T, m chart.Map) ([]int, bool) {
	t.Helper()
	ring, e := chart.Odd(m)
	if e != api.OK && e != api.ErrClash {
		t.Fatalf("Odd(%v): error %d", m, e)
	}
	return ring, e == api.OK
}

func sameMap(a, b chart.Map) bool { return sameLists(a.Points, b.Points) }

// fourLines visits all maps of four lines, each told once.
func fourLines(visit func(s *series, m chart.Map)) {
	s := series(2)
	for after := range eachChoice(8, 8) {
		var m chart.Map
		for smallest := range after {
			if slices.Contains(slices.Concat(m.Points...), smallest) {
				continue
			}
			point := list(smallest)
			for end := after[smallest]; end != smallest; end = after[end] {
				point = append(point, end)
			}
			m.Points = append(m.Points, point)
		}
		visit(&s, m)
	}
}

// P9.9, M1, M2: Euler's formula; each end is in one face, at one point of the tidy map, and at one of its back.
func TestEuler(t *testing.T) {
	check := func(_ *series, m chart.Map) {
		points, lines, faces := len(m.Points), linesOf(m), facesOf(t, m)
		parts, genus := partsOf(t, m), genusOf(t, m)
		if points-lines+len(faces) != 2*parts-2*genus || genus < 0 {
			t.Fatalf("%v: %d points, %d lines, %d faces, but %d parts, and genus %d", m, points, lines, len(faces), parts, genus)
		}
		for _, all := range [][][]int{faces, tidyOf(t, m).Points, dualOf(t, m).Points, backOf(t, m).Points} {
			if ends := slices.Sorted(slices.Values(slices.Concat(all...))); !slices.Equal(ends, upTo(2*lines)) {
				t.Fatalf("%v: %v does not have each end once", m, all)
			}
		}
	}
	eachMap(check)
	fourLines(check)
}

// P9.10, M6: the dual of the dual is the tidy map.
func TestDualOfDual(t *testing.T) {
	check := func(_ *series, m chart.Map) {
		dual := dualOf(t, m)
		if again := dualOf(t, dual); !sameMap(again, tidyOf(t, m)) {
			t.Fatalf("%v: the dual of the dual %v is %v", m, dual, again)
		}
		if a, b := partsOf(t, m), partsOf(t, dual); a != b {
			t.Fatalf("%v: %d parts, the dual has %d", m, a, b)
		}
		if a, b := genusOf(t, m), genusOf(t, dual); a != b {
			t.Fatalf("%v: genus %d, that of the dual is %d", m, a, b)
		}
		if faces := len(facesOf(t, m)); len(dual.Points) != faces {
			t.Fatalf("%v: %d faces, the dual has %d points", m, faces, len(dual.Points))
		}
		if faces := len(facesOf(t, dual)); len(m.Points) != faces {
			t.Fatalf("%v: %d points, the dual has %d faces", m, len(m.Points), faces)
		}
	}
	eachMap(check)
	fourLines(check)
}

// fromBehind returns lists of ends as they are seen from the other side: the other ends, in the opposite order.
func fromBehind(faces [][]int) [][]int {
	var others [][]int
	for _, face := range faces {
		var other []int
		for _, end := range slices.Backward(face) {
			other = append(other, otherEnd(end))
		}
		others = append(others, other)
	}
	return triedTidy(others)
}

// P9.11, M6: the back of the back is the tidy map, and the back has the faces seen from the other side.
func TestBackOfBack(t *testing.T) {
	changed := 0
	check := func(_ *series, m chart.Map) {
		back, tidy := backOf(t, m), tidyOf(t, m)
		if again := backOf(t, back); !sameMap(again, tidy) {
			t.Fatalf("%v: the back of the back %v is %v", m, back, again)
		}
		if a, b := genusOf(t, m), genusOf(t, back); a != b {
			t.Fatalf("%v: genus %d, that of the back is %d", m, a, b)
		}
		if a, b := partsOf(t, m), partsOf(t, back); a != b {
			t.Fatalf("%v: %d parts, the back has %d", m, a, b)
		}
		if got, want := facesOf(t, back), fromBehind(facesOf(t, m)); !sameLists(got, want) {
			t.Fatalf("%v: the back has the faces %v, want %v", m, got, want)
		}
		if !sameMap(back, tidy) {
			changed++
		}
	}
	eachMap(check)
	fourLines(check)
	if changed < 10000 {
		t.Errorf("only %d maps look different from behind", changed)
	}
}

// P9.12, M7: without a line the genus is the same or smaller by 1, and a flat map is flat; M2: one line is lost.
func TestLineGone(t *testing.T) {
	same, smaller := 0, 0
	check := func(_ *series, m chart.Map) {
		genus := genusOf(t, m)
		for line := range linesOf(m) {
			less := withoutOf(t, m, line)
			after := genusOf(t, less)
			if after != genus && after != genus-1 || after < 0 {
				t.Fatalf("%v has genus %d, but without line %d, %v, it is %d", m, genus, line, less, after)
			}
			if linesOf(less) != linesOf(m)-1 || chart.Check(less) != api.OK {
				t.Fatalf("%v is without line %d %v: not a map of a line less", m, line, less)
			}
			same += 1 - (genus - after)
			smaller += genus - after
		}
	}
	eachMap(check)
	fourLines(check)
	if min(same, smaller) < 10000 {
		t.Errorf("without a line the genus is %d times the same, and %d times smaller: too few", same, smaller)
	}
}

// P9.12, M7: a line drawn within faces keeps a map flat, and so does each line of it that is turned off, until none is left.
func TestFlatStaysFlat(t *testing.T) {
	eachMixedMap(150, func(s *series, _ chart.Map) {
		m := s.flat(chart.MaxLines, true)
		for lines := chart.MaxLines; lines > 0; lines-- {
			if genus := genusOf(t, m); genus != 0 {
				t.Fatalf("%v is drawn flat, but has genus %d", m, genus)
			}
			m = withoutOf(t, m, s.below(lines))
		}
		if len(m.Points) > 0 {
			t.Fatalf("%v is left without lines", m)
		}
	})
}

// M7: without a line no more colours are needed, colours that were proper still are, and no odd ring becomes shorter.
func TestColoursWithoutLine(t *testing.T) {
	fewer, gone := 0, 0
	eachMap(func(_ *series, m chart.Map) {
		fewest, colours, is := colourOf(t, m)
		if !is {
			return
		}
		ring, odd := oddOf(t, m)
		for line := range linesOf(m) {
			less := withoutOf(t, tidyOf(t, m), line)
			after, _, still := colourOf(t, less)
			if !still || after > fewest {
				t.Fatalf("%v needs %d colours, but without line %d %d", m, fewest, line, after)
			}
			fewer += fewest - after
			if left := coloursLeft(m, colours, line); !properOf(t, less, left) {
				t.Fatalf("%v has the colours %v, but without line %d %v are not proper", m, colours, line, left)
			}
			other, oddStill := oddOf(t, less)
			if oddStill && (!odd || len(other) < len(ring)) {
				t.Fatalf("%v has the odd ring %v, but without line %d %v", m, ring, line, other)
			}
			if odd && !oddStill {
				gone++
			}
		}
	})
	if min(fewer, gone) < 1000 {
		t.Errorf("without a line %d colours are fewer, and %d times no odd ring is left: too few", fewer, gone)
	}
}

// coloursLeft returns the colours of the points of the tidy map without a line.
func coloursLeft(m chart.Map, colours []int, line int) []int {
	// All ends but those of the line, ascending: the points come in the order of their smallest ones.
	var left, seen []int
	for end := range 2 * linesOf(m) {
		if point, _ := place(m, end); end/2 != line && !slices.Contains(seen, point) {
			seen = append(seen, point)
			left = append(left, colours[point])
		}
	}
	return left
}

// P9.13, M3, M4: a map has proper colours just if no line has both its ends at one point; Colour returns proper ones, and
// no number of them can be spared; four are enough.
func TestColoursAreProper(t *testing.T) {
	number := map[int]int{}
	eachMap(func(s *series, m chart.Map) {
		fewest, colours, is := colourOf(t, m)
		if is == hasLoop(m) {
			t.Fatalf("%v has proper colours: %t", m, is)
		}
		if !is {
			if different := s.order(len(m.Points)); properOf(t, m, different) {
				t.Fatalf("%v has no colours, but %v are proper", m, different)
			}
			return
		}
		if !properOf(t, m, colours) || len(colours) > 0 && slices.Max(colours) != fewest-1 {
			t.Fatalf("Colour(%v) = %v, with %d colours at least", m, colours, fewest)
		}
		if fewest > 4 && genusOf(t, m) == 0 {
			t.Fatalf("%v is flat, and needs %d colours", m, fewest)
		}
		if genusOf(t, m) == 0 {
			number[fewest]++
		}
		for point, colour := range colours {
			for before := range colour {
				other := slices.Clone(colours[:point+1])
				other[point] = before
				if canBeEnded(t, m, other, fewest) {
					t.Fatalf("Colour(%v) = %v, but colours that begin with %v are proper", m, colours, other)
				}
			}
		}
	})
	if min(number[2], number[3], number[4]) < 200 {
		t.Errorf("flat maps by colours: %v: too few", number)
	}
}

// canBeEnded returns whether there are proper colours, of so many, that begin with given ones, by trying all behind them.
func canBeEnded(t *testing.T, m chart.Map, begin []int, number int) bool {
	t.Helper()
	if len(begin) == len(m.Points) {
		return properOf(t, m, begin)
	}
	for _, line := range pointsOf(m) {
		if max(line[0], line[1]) < len(begin) && begin[line[0]] == begin[line[1]] {
			return false
		}
	}
	return slices.ContainsFunc(upTo(number), func(colour int) bool {
		return canBeEnded(t, m, append(slices.Clone(begin), colour), number)
	})
}

// P9.13, M4: two colours are enough just if there is no odd ring; what Odd returns is one, and two colours do not suffice
// for its points.
func TestOddRings(t *testing.T) {
	number := map[bool]int{}
	eachMap(func(_ *series, m chart.Map) {
		fewest, _, is := colourOf(t, m)
		if !is {
			return
		}
		ring, odd := oddOf(t, m)
		if odd != (fewest > 2) || odd && !isRing(m, ring) {
			t.Fatalf("%v needs %d colours, and Odd = %v, %t", m, fewest, ring, odd)
		}
		number[odd]++
		if !odd {
			return
		}
		for both := range 1 << len(ring) {
			clash := false
			for i := range ring {
				clash = clash || both>>i&1 == both>>((i+1)%len(ring))&1
			}
			if !clash {
				t.Fatalf("Odd(%v) = %v, which two colours suffice for", m, ring)
			}
		}
	})
	if min(number[true], number[false]) < 1000 {
		t.Errorf("maps by whether they have an odd ring: %v: too few", number)
	}
}

// P9.14, M5: if points are told in another order, or from other ends on, all stays but what tells the points by number.
func TestToldInAnotherOrder(t *testing.T) {
	check := func(s *series, m chart.Map) {
		other := s.told(m)
		if a, b := tidyOf(t, m), tidyOf(t, other); !sameMap(a, b) {
			t.Fatalf("Tidy(%v) = %v, of %v it is %v", m, a, other, b)
		}
		if a, b := facesOf(t, m), facesOf(t, other); !sameLists(a, b) {
			t.Fatalf("Faces(%v) = %v, of %v they are %v", m, a, other, b)
		}
		if a, b := genusOf(t, m), genusOf(t, other); a != b {
			t.Fatalf("Genus(%v) = %d, of %v it is %d", m, a, other, b)
		}
		if a, b := backOf(t, m), backOf(t, other); !sameMap(a, b) {
			t.Fatalf("Back(%v) = %v, of %v it is %v", m, a, other, b)
		}
		for line := range linesOf(m) {
			if a, b := withoutOf(t, m, line), withoutOf(t, other, line); !sameMap(a, b) {
				t.Fatalf("Without(%v, %d) = %v, of %v it is %v", m, line, a, other, b)
			}
		}
		sameColours(t, m, other)
	}
	eachMap(check)
	fourLines(check)
}

// sameColours checks that two maps need as many colours, and have odd rings of the same length.
func sameColours(t *testing.T, m, other chart.Map) {
	t.Helper()
	a, _, is := colourOf(t, m)
	b, _, also := colourOf(t, other)
	if a != b || is != also {
		t.Fatalf("Fewest(%v) = %d, %t, of %v it is %d, %t", m, a, is, other, b, also)
	}
	if !is {
		return
	}
	ring, odd := oddOf(t, m)
	otherRing, oddToo := oddOf(t, other)
	if odd != oddToo || len(ring) != len(otherRing) {
		t.Fatalf("Odd(%v) = %v, of %v it is %v", m, ring, other, otherRing)
	}
}

// renumbered returns lists of ends that have other numbers.
func renumbered(all [][]int, numbers []int) [][]int {
	var others [][]int
	for _, ends := range all {
		var other []int
		for _, end := range ends {
			other = append(other, numbers[end])
		}
		others = append(others, other)
	}
	return others
}

// M5: if lines get other numbers, and their ends change places, the faces are the same but for these numbers.
func TestLinesRenumbered(t *testing.T) {
	check := func(s *series, m chart.Map) {
		var numbers []int
		for _, line := range s.order(linesOf(m)) {
			first := s.below(2)
			numbers = append(numbers, 2*line+first, 2*line+1-first)
		}
		other := chart.Map{Points: renumbered(m.Points, numbers)}
		if got, want := facesOf(t, other), triedTidy(renumbered(facesOf(t, m), numbers)); !sameLists(got, want) {
			t.Fatalf("Faces(%v) = %v, want %v", other, got, want)
		}
		if a, b := partsOf(t, m), partsOf(t, other); a != b {
			t.Fatalf("Parts(%v) = %d, of %v they are %d", m, a, other, b)
		}
		if a, b := genusOf(t, m), genusOf(t, other); a != b {
			t.Fatalf("Genus(%v) = %d, of %v it is %d", m, a, other, b)
		}
		_, first, _ := colourOf(t, m)
		_, second, _ := colourOf(t, other)
		ring, _ := chart.Odd(m)
		otherRing, _ := chart.Odd(other)
		if !slices.Equal(first, second) || !slices.Equal(ring, otherRing) {
			t.Fatalf("%v has colours %v, odd ring %v; %v has %v, %v", m, first, ring, other, second, otherRing)
		}
	}
	eachMap(check)
	fourLines(check)
}

// M6: a line that is turned off can be turned on again: both ends are put back before the ends before which they lay.
func TestLineTurnedOnAgain(t *testing.T) {
	check := func(_ *series, m chart.Map) {
		tidy := tidyOf(t, m)
		line := linesOf(m) - 1
		if line < 0 {
			return
		}
		again := copyOf(withoutOf(t, m, line))
		one, other := 2*line, 2*line+1
		afterOne, afterOther := triedAfter(tidy, one), triedAfter(tidy, other)
		if afterOne == other && afterOther != one {
			again = putBack(again, other, afterOther)
			again = putBack(again, one, afterOne)
		} else {
			again = putBack(again, one, afterOne)
			again = putBack(again, other, afterOther)
		}
		if !sameMap(tidyOf(t, again), tidy) {
			t.Fatalf("%v without line %d, and with it again, is %v", tidy, line, again)
		}
	}
	eachMap(check)
	fourLines(check)
}

// putBack returns a map with an end more, before another one if that is there, otherwise at a point of its own.
func putBack(m chart.Map, end, before int) chart.Map {
	if slices.Contains(slices.Concat(m.Points...), before) {
		return insertBefore(m, before, end)
	}
	m.Points = append(m.Points, list(end))
	return m
}
