package walk_test

import (
	"math"
	"slices"
	"testing"

	"bellarmine/api"
	"bellarmine/walk"
)

func list(numbers ...int) []int { return numbers }

func lists(all ...[]int) [][]int { return all }

// two and three are A and B of the chapter's examples.
func two() []int { return list(2, 3) }

func three() []int { return list(2, 3, 6) }

func upTo(n int) []int {
	numbers := []int{}
	for number := range n {
		numbers = append(numbers, number)
	}
	return numbers
}

type badTides struct {
	name  string
	tides []int
	want  api.Errno
}

func allBadTides() []badTides {
	return []badTides{
		{"nil", nil, api.ErrEmpty},
		{"no stretches", list(), api.ErrEmpty},
		{"5 stretches", list(8, 8, 8, 8, 8), api.ErrMany},
		{"5 stretches before their numbers", list(0, 9, -1, 8, 8), api.ErrMany},
		{"very many stretches", make([]int, 100000), api.ErrMany},
		{"0", list(0), api.ErrRange},
		{"9", list(9), api.ErrRange},
		{"below 0", list(-1, 3), api.ErrRange},
		{"9 at the end", list(1, 2, 3, 9), api.ErrRange},
		{"0 at the end", list(8, 8, 8, 0), api.ErrRange},
		{"0 in the middle", list(2, 0, 3), api.ErrRange},
		{"the greatest int", list(2, math.MaxInt), api.ErrRange},
		{"the smallest int", list(math.MinInt), api.ErrRange},
	}
}

// P8.1: Check.
func TestCheck(t *testing.T) {
	for _, good := range lists(two(), three(), list(1), list(8), list(1, 8), list(1, 1, 1, 1), list(8, 8, 8, 8), list(4, 5, 7, 8)) {
		if e := walk.Check(good); e != api.OK {
			t.Errorf("Check(%v) = %d, want OK", good, e)
		}
	}
	for _, bad := range allBadTides() {
		if e := walk.Check(bad.tides); e != bad.want {
			t.Errorf("%s: Check = %d, want %d", bad.name, e, bad.want)
		}
	}
}

// call is a call of a function: whether it returned nothing besides its error, and this error.
type call struct {
	name string
	run  func() (bool, api.Errno)
}

// walkCalls are the calls of the functions that have a walk.
func walkCalls(tides, tried []int) []call {
	return []call{
		{"Left", func() (bool, api.Errno) { l, e := walk.Left(tides, tried); return len(l) == 0, e }},
		{"Goes", func() (bool, api.Errno) { is, e := walk.Goes(tides, tried); return !is, e }},
	}
}

// calls are the calls of all functions but Check.
func calls(tides, tried []int, many int) []call {
	return append(walkCalls(tides, tried),
		call{"Weight", func() (bool, api.Errno) { a, b, e := walk.Weight(tides); return a == 0 && b == 0, e }},
		call{"Can", func() (bool, api.Errno) { is, e := walk.Can(tides); return !is, e }},
		call{"Longest", func() (bool, api.Errno) { n, e := walk.Longest(tides); return n == 0, e }},
		call{"Walk", func() (bool, api.Errno) { l, e := walk.Walk(tides, many); return len(l) == 0, e }},
		call{"Loop", func() (bool, api.Errno) { a, b, e := walk.Loop(tides); return len(a)+len(b) == 0, e }},
		call{"Meets", func() (bool, api.Errno) { return true, walk.Meets(tides, tried) }},
		call{"Groups", func() (bool, api.Errno) { l, e := walk.Groups(tides); return len(l) == 0, e }},
	)
}

// P8.1: the error of the numbers of tides comes before all others; R2: nothing besides it.
func TestBadTidesFirst(t *testing.T) {
	for _, bad := range allBadTides() {
		for _, tried := range lists(nil, list(0), list(0, 1, 0), list(-1, 9), make([]int, 61), list(math.MinInt, math.MaxInt)) {
			for _, many := range list(0, 1, 60, 61, -1, math.MaxInt) {
				for _, c := range calls(bad.tides, tried, many) {
					if zero, e := c.run(); !zero || e != bad.want {
						t.Errorf("%s: %s returns error %d, zero value %t, want %d", bad.name, c.name, e, zero, bad.want)
					}
				}
			}
		}
	}
}

// P8.1: Weight.
func TestWeight(t *testing.T) {
	for _, x := range []struct {
		tides        []int
		above, below int
	}{
		{two(), 5, 6}, {three(), 1, 1}, {list(1), 1, 1}, {list(8), 1, 8}, {list(1, 1), 2, 1}, {list(1, 1, 1, 1), 4, 1},
		{list(2, 2), 1, 1}, {list(2, 4, 8), 7, 8}, {list(4, 4), 1, 2}, {list(6, 6, 6), 1, 2}, {list(8, 8, 8, 8), 1, 2},
		{list(3, 3, 3), 1, 1}, {list(3, 6, 6), 2, 3}, {list(2, 8, 8), 3, 4}, {list(5, 6, 7, 8), 533, 840}, {list(8, 7, 6, 5), 533, 840},
		{list(7, 7, 7, 7), 4, 7}, {list(1, 2, 3, 4), 25, 12},
	} {
		if a, b, e := walk.Weight(x.tides); a != x.above || b != x.below || e != api.OK {
			t.Errorf("Weight(%v) = %d, %d, %d, want %d and %d", x.tides, a, b, e, x.above, x.below)
		}
	}
}

// known is numbers of tides and what is known of them; a walk that can go on for ever has no longest one, and only such a
// walk has a loop.
type known struct {
	tides       []int
	longest     int
	walk        []int
	begin, loop []int
	groups      []int
}

func allKnown() []known {
	return []known{
		{two(), -1, list(0, 0, 1, 0, 0, 1), list(0), list(0, 1, 0), list(0, 0)},
		{list(3, 2), -1, list(0, 1, 0, 1, 0), list(0), list(1, 0), list(0, 0)},
		{three(), 7, nil, nil, nil, list(0, 0, 1)},
		{list(6, 3, 2), 7, nil, nil, nil, list(0, 0, 1)},
		{list(1), -1, list(0, 0, 0), nil, list(0), list(0)},
		{list(8), -1, list(0, 0), nil, list(0), list(0)},
		{list(1, 8), 7, nil, nil, nil, list(0, 1)},
		{list(8, 1), 7, nil, nil, nil, list(0, 1)},
		{list(1, 2), 1, nil, nil, nil, list(0, 1)},
		{list(1, 1), 0, nil, nil, nil, list(0, 1)},
		{list(1, 1, 1, 1), 0, nil, nil, nil, list(0, 1, 2, 3)},
		{list(2, 2), -1, list(0, 1, 0, 1), list(0), list(1, 0), list(0, 0)},
		{list(2, 2, 2), 1, nil, nil, nil, list(0, 0, 1)},
		{list(2, 2, 2, 2), 1, nil, nil, nil, list(0, 0, 1, 1)},
		{list(1, 2, 1, 2), 0, nil, nil, nil, list(0, 1, 2, 1)},
		{list(2, 3, 2, 3), 2, nil, nil, nil, list(0, 0, 1, 1)},
		{list(2, 2, 8), 7, nil, nil, nil, list(0, 0, 1)},
		{list(3, 3, 3), -1, list(0, 1, 2, 0, 1), list(0, 1), list(2, 0, 1), list(0, 0, 0)},
		{list(2, 4, 4), -1, list(0, 1, 0, 2, 0, 1), list(0, 1), list(0, 2, 0, 1), list(0, 0, 0)},
		{list(4, 4, 4, 4), -1, list(0, 1, 2, 3, 0, 1), list(0, 1, 2), list(3, 0, 1, 2), list(0, 0, 0, 0)},
		{list(4, 4, 4, 8), -1, list(0, 0, 1, 2, 0, 1, 2, 3, 0), list(0, 0, 1, 2, 0, 1, 2), list(3, 0, 1, 2, 0, 0, 1, 2), list(0, 0, 0, 0)},
		{list(2, 8), -1, list(0, 0, 0, 0, 0, 0, 0, 1, 0), list(0), list(0, 0, 0, 0, 0, 0, 1, 0), list(0, 0)},
		{list(8, 8), -1, list(0, 0, 0, 0, 0, 0, 0, 1, 0, 0, 0, 0, 0, 0, 0, 1), list(0), list(0, 0, 0, 0, 0, 0, 1, 0), list(0, 0)},
	}
}

// P8.2: Can and Longest.
func TestLongest(t *testing.T) {
	for _, x := range allKnown() {
		want, wantError := x.longest, api.OK
		if x.longest < 0 {
			want, wantError = 0, api.ErrClash
		}
		if is, e := walk.Can(x.tides); is != (x.longest < 0) || e != api.OK {
			t.Errorf("Can(%v) = %t, %d, want %t", x.tides, is, e, x.longest < 0)
		}
		if n, e := walk.Longest(x.tides); n != want || e != wantError {
			t.Errorf("Longest(%v) = %d, %d, want %d, %d", x.tides, n, e, want, wantError)
		}
	}
}

// P8.3: errors of walks; R2: nothing besides them.
func TestBadWalks(t *testing.T) {
	for _, x := range []struct {
		name         string
		tides, tried []int
		want         api.Errno
	}{
		{"61 tides", list(1), make([]int, 61), api.ErrLong},
		{"very many tides", list(1), make([]int, 100000), api.ErrLong},
		{"61 tides before their stretches", two(), slices.Repeat(list(2), 61), api.ErrLong},
		{"61 tides before those at which a stretch is missed", two(), make([]int, 61), api.ErrLong},
		{"a stretch 2", two(), list(2), api.ErrNone},
		{"a stretch below 0", two(), list(-1), api.ErrNone},
		{"a stretch 2 at the end", two(), list(0, 1, 0, 1, 2), api.ErrNone},
		{"the ends of int", two(), list(0, math.MaxInt, math.MinInt), api.ErrNone},
		{"one stretch, and 1", list(1), list(1), api.ErrNone},
		{"four stretches, and 4", list(8, 8, 8, 8), list(0, 1, 2, 3, 4), api.ErrNone},
		{"a wrong stretch behind tides at which one is missed", two(), list(1, 1, 0, 0, 0, -1), api.ErrNone},
		{"60 tides with a wrong stretch at the end", two(), append(make([]int, 59), 2), api.ErrNone},
		{"the first stretch is missed at the beginning", two(), list(1, 1), api.ErrLost},
		{"the last stretch is missed at the beginning", two(), list(0, 0, 0), api.ErrLost},
		{"missed, and met too late", two(), list(0, 0, 0, 1), api.ErrLost},
		{"missed in the middle", two(), list(0, 1, 1, 0), api.ErrLost},
		{"missed at the end", two(), list(0, 1, 0, 1, 0, 0, 0), api.ErrLost},
		{"missed at the last of 60 tides", two(), append(slices.Repeat(list(0, 1), 29), 1, 1), api.ErrLost},
		{"a stretch that must be met each tide", list(1, 8), list(1), api.ErrLost},
		{"two stretches that must be met each tide", list(1, 1), list(0), api.ErrLost},
		{"8 tides without a stretch", list(1, 8), make([]int, 8), api.ErrLost},
		{"9 tides, the first of them at the stretch", list(8, 8), list(0, 1, 1, 1, 1, 1, 1, 1, 1), api.ErrLost},
		{"60 tides without a stretch", list(8, 8, 8, 8), make([]int, 60), api.ErrLost},
	} {
		for _, c := range walkCalls(x.tides, x.tried) {
			if zero, e := c.run(); !zero || e != x.want {
				t.Errorf("%s: %s returns error %d, zero value %t, want %d", x.name, c.name, e, zero, x.want)
			}
		}
	}
}

// P8.3: Left and Goes.
func TestLeft(t *testing.T) {
	for _, x := range []struct {
		name         string
		tides, tried []int
		left         []int
		goes         bool
	}{
		{"A, 0 0", two(), list(0, 0), list(2, 1), true},
		{"A, none", two(), nil, list(2, 3), true},
		{"A, 1", two(), list(1), list(1, 3), true},
		{"A, 1 0", two(), list(1, 0), list(2, 2), true},
		{"B, none", three(), nil, list(2, 3, 6), false},
		{"B, 2", three(), list(2), list(1, 2, 6), false},
		{"B, as long as it can be", three(), list(2, 0, 1, 0, 1, 0, 2), list(1, 1, 6), false},
		{"one stretch", list(1), make([]int, 60), list(1), true},
		{"one stretch that may wait", list(8), list(0), list(8), true},
		{"1, 8, as long as it can be", list(1, 8), make([]int, 7), list(1, 1), false},
		{"1, 1, none", list(1, 1), nil, list(1, 1), false},
		{"a bad begin of what can go on for ever", list(3, 3, 3), list(0, 0), list(3, 1, 1), false},
		{"a good begin of it", list(3, 3, 3), list(0, 1), list(2, 3, 1), true},
		{"one stretch at the last tide", list(8, 8), append(make([]int, 7), 1), list(7, 8), true},
		{"one stretch before the last tide", list(8, 8), make([]int, 7), list(8, 1), true},
		{"60 tides", two(), slices.Repeat(list(0, 0, 1), 20), list(1, 3), true},
		{"met twice", list(8, 8, 8), list(0, 1, 0, 1, 1), list(6, 8, 3), true},
		{"two that must be met at the next tide", list(4, 4, 8), list(2, 2, 2), list(1, 1, 8), false},
	} {
		if l, e := walk.Left(x.tides, x.tried); !slices.Equal(l, x.left) || e != api.OK {
			t.Errorf("%s: Left = %v, %d, want %v", x.name, l, e, x.left)
		}
		if is, e := walk.Goes(x.tides, x.tried); is != x.goes || e != api.OK {
			t.Errorf("%s: Goes = %t, %d, want %t", x.name, is, e, x.goes)
		}
	}
}

// P8.4.
func TestWalk(t *testing.T) {
	for _, x := range allKnown() {
		for many := range walk.MaxPlan + 1 {
			l, e := walk.Walk(x.tides, many)
			if x.longest >= 0 {
				if len(l) != 0 || e != api.ErrLost {
					t.Errorf("Walk(%v, %d) = %v, %d, want ErrLost", x.tides, many, l, e)
				}
				continue
			}
			known := min(many, len(x.walk))
			if len(l) != many || !slices.Equal(l[:known], x.walk[:known]) || e != api.OK {
				t.Errorf("Walk(%v, %d) = %v, %d, want %v", x.tides, many, l, e, x.walk)
			}
		}
		for _, many := range list(-1, 61, math.MinInt, math.MaxInt) {
			if l, e := walk.Walk(x.tides, many); len(l) != 0 || e != api.ErrRange {
				t.Errorf("Walk(%v, %d) = %v, %d, want ErrRange", x.tides, many, l, e)
			}
		}
	}
}

// P8.5.
func TestLoop(t *testing.T) {
	for _, x := range allKnown() {
		want := api.OK
		if x.longest >= 0 {
			want = api.ErrLost
		}
		if begin, loop, e := walk.Loop(x.tides); !slices.Equal(begin, x.begin) || !slices.Equal(loop, x.loop) || e != want {
			t.Errorf("Loop(%v) = %v, %v, %d, want %v, %v, %d", x.tides, begin, loop, e, x.begin, x.loop, want)
		}
	}
}

// P8.5: a loop may be longer than a plan, and begin late.
func TestLongLoop(t *testing.T) {
	begin, loop, e := walk.Loop(list(4, 5, 7, 8))
	if len(loop) <= walk.MaxPlan || e != api.OK {
		t.Errorf("Loop of 4, 5, 7, 8 = %v, %v, %d: want a loop longer than 60 tides", begin, loop, e)
	}
	if e := walk.Meets(list(4, 5, 7, 8), loop); e != api.ErrLong {
		t.Errorf("Meets of this loop = %d, want ErrLong", e)
	}
}

// P8.6.
func TestMeets(t *testing.T) {
	for _, x := range []struct {
		name        string
		tides, plan []int
		want        api.Errno
	}{
		{"A, 0 1", two(), list(0, 1), api.OK},
		{"A, 0 0 1", two(), list(0, 0, 1), api.OK},
		{"A, 0 0 0 1", two(), list(0, 0, 0, 1), api.ErrProof},
		{"A, none", two(), nil, api.ErrEmpty},
		{"A, a plan without elements", two(), list(), api.ErrEmpty},
		{"B, none", three(), nil, api.ErrEmpty},
		{"B, the longest walk", three(), list(2, 0, 1, 0, 1, 0, 2), api.ErrProof},
		{"61 tides", list(1), make([]int, 61), api.ErrLong},
		{"very many tides", list(1), make([]int, 100000), api.ErrLong},
		{"61 tides before their stretches", two(), slices.Repeat(list(-1), 61), api.ErrLong},
		{"61 tides before those at which a stretch is missed", two(), make([]int, 61), api.ErrLong},
		{"60 tides", list(1), make([]int, 60), api.OK},
		{"60 tides that meet all", two(), slices.Repeat(list(0, 0, 1), 20), api.OK},
		{"60 tides, the last one too late", two(), append(slices.Repeat(list(0, 1), 29), 1, 1), api.ErrProof},
		{"60 tides, missed from the last to the first one", two(), append(append(list(1), slices.Repeat(list(0, 1), 29)...), 1), api.ErrProof},
		{"a stretch 2", two(), list(0, 2), api.ErrNone},
		{"a stretch below 0", two(), list(-1, 0), api.ErrNone},
		{"the ends of int", two(), list(math.MaxInt, math.MinInt), api.ErrNone},
		{"a wrong stretch behind tides at which one is missed", two(), list(1, 1, 0, 0, 0, 2), api.ErrNone},
		{"a plan of one tide", list(1), list(0), api.OK},
		{"a plan of one tide, and a stretch that it never meets", two(), list(0), api.ErrProof},
		{"a stretch that is never met, and may wait longest", list(8, 8), list(0), api.ErrProof},
		{"the same with other tides", list(8, 8, 8), list(0, 1, 0, 1, 1), api.ErrProof},
		{"good until it is repeated", two(), list(1, 0, 1), api.ErrProof},
		{"missed from the last to the first tide", list(3, 3), list(0, 0, 1, 0), api.ErrProof},
		{"met at the last tide in time", list(8, 8), list(0, 0, 0, 0, 0, 0, 0, 1), api.OK},
		{"met at the last tide too late", list(8, 8), list(0, 0, 0, 0, 0, 0, 0, 0, 1), api.ErrProof},
		{"met at the first tide too late", list(8, 8), list(1, 0, 0, 0, 0, 0, 0, 0, 0), api.ErrProof},
		{"four stretches", list(4, 4, 4, 4), list(3, 1, 0, 2), api.OK},
		{"four stretches in another order when repeated", list(4, 4, 4, 4), list(0, 1, 2, 3, 0, 2, 1, 3), api.ErrProof},
	} {
		if e := walk.Meets(x.tides, x.plan); e != x.want {
			t.Errorf("%s: Meets = %d, want %d", x.name, e, x.want)
		}
	}
}

// P8.7.
func TestGroups(t *testing.T) {
	for _, x := range allKnown() {
		if l, e := walk.Groups(x.tides); !slices.Equal(l, x.groups) || e != api.OK {
			t.Errorf("Groups(%v) = %v, %d, want %v", x.tides, l, e, x.groups)
		}
	}
}

// withSpare returns a copy of a list with an element behind its end, which must not be written to either.
func withSpare(numbers []int) []int { return append(slices.Clone(numbers), -7)[:len(numbers)] }

// overwrite writes to all memory of a list, also behind its end.
func overwrite(numbers []int) {
	numbers = numbers[:cap(numbers)]
	for i := range numbers {
		numbers[i] = -99
	}
}

// R4: arguments stay as they were, and results share no memory with them or with one another.
func TestOwnMemory(t *testing.T) {
	tides, tried := withSpare(list(2, 4, 5)), withSpare(list(0, 1, 0))
	for range 2 {
		left, _ := walk.Left(tides, tried)
		first, _ := walk.Walk(tides, 7)
		begin, loop, _ := walk.Loop(tides)
		groups, _ := walk.Groups(tides)
		for _, x := range []struct{ got, want []int }{
			{left, list(2, 3, 2)}, {first, list(0, 0, 1, 0, 2, 0, 1)}, {begin, list(0, 0, 1, 0, 2)}, {loop, list(0, 1, 0, 2)}, {groups, list(0, 0, 0)},
		} {
			if !slices.Equal(x.got, x.want) {
				t.Fatalf("%v after other results were overwritten, want %v", x.got, x.want)
			}
			overwrite(x.got)
		}
		for _, c := range calls(tides, tried, 7) {
			c.run()
		}
		walk.Check(tides)
	}
	if !slices.Equal(tides[:4], list(2, 4, 5, -7)) || !slices.Equal(tried[:4], list(0, 1, 0, -7)) {
		t.Errorf("an argument was changed: %v, %v", tides[:4], tried[:4])
	}
}

// R4: begin and loop can be added to, and neither changes the other one; nothing can be reached behind begin.
func TestLoopAdded(t *testing.T) {
	begin, loop, _ := walk.Loop(two())
	if behind := begin[len(begin):cap(begin)]; len(behind) > 0 {
		t.Errorf("Loop = %v, %v, but behind begin there is %v", begin, loop, behind)
	}
	begin, loop = append(begin, -1, -1, -1, -1), append(loop, -2, -2, -2, -2)
	if !slices.Equal(begin, list(0, -1, -1, -1, -1)) || !slices.Equal(loop, list(0, 1, 0, -2, -2, -2, -2)) {
		t.Errorf("Loop added to: %v, %v", begin, loop)
	}
}

// answers calls all functions and returns all numbers that they return.
func answers(tides, tried []int, many int) []int {
	all := list(int(walk.Check(tides)), int(walk.Meets(tides, tried)))
	add := func(numbers []int, e api.Errno) { all = append(append(append(all, len(numbers)), numbers...), int(e)) }
	above, below, e := walk.Weight(tides)
	add(list(above, below), e)
	longest, e := walk.Longest(tides)
	add(list(longest), e)
	add(walk.Left(tides, tried))
	add(walk.Walk(tides, many))
	begin, loop, e := walk.Loop(tides)
	add(begin, e)
	add(loop, e)
	add(walk.Groups(tides))
	is, e := walk.Can(tides)
	goes, f := walk.Goes(tides, tried)
	if is {
		add(list(1), e)
	}
	if goes {
		add(list(2), f)
	}
	return all
}

// P1: every function returns for all arguments, and the same for equal ones; R3: nil is a list without elements.
func TestAllArguments(t *testing.T) {
	some := lists(nil, list(), list(0), list(1), list(9), list(-1, 3), two(), three(), list(8, 8, 8, 8), list(4, 5, 7, 8), list(6, 5, 4, 3),
		list(1, 1, 1, 1), list(8, 8, 8, 8, 8), make([]int, 1000), list(math.MaxInt), list(math.MinInt, math.MaxInt))
	walks := lists(nil, list(), list(0), list(-1), list(0, 1), list(1, 1, 0), list(0, 1, 2, 3), slices.Repeat(list(0, 1, 2, 3), 15),
		make([]int, 60), make([]int, 61), make([]int, 100000), list(math.MaxInt, math.MinInt))
	for _, tides := range some {
		for _, tried := range walks {
			for _, many := range list(0, 1, 59, 60, 61, -1, math.MaxInt, math.MinInt) {
				got := answers(tides, tried, many)
				again := answers(slices.Clone(tides), slices.Clone(tried), many)
				if !slices.Equal(got, again) {
					t.Fatalf("%v, %v, %d: %v, then %v", tides, tried, many, got, again)
				}
			}
		}
		if got, want := answers(tides, nil, 3), answers(tides, list(), 3); !slices.Equal(got, want) {
			t.Errorf("%v: %v with nil, %v with a list without elements", tides, got, want)
		}
	}
}
