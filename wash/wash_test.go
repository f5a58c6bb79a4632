package wash_test

import (
	"math"
	"slices"
	"testing"

	"bellarmine/api"
	"bellarmine/wash"
)

func list(numbers ...int) []int { return numbers }

func lists(all ...[]int) [][]int { return all }

func equalLists(a, b [][]int) bool { return slices.EqualFunc(a, b, slices.Equal[[]int]) }

// upTo returns the numbers below n in ascending order, and so the tide of n places that carries nothing.
func upTo(n int) []int {
	numbers := []int{}
	for number := range n {
		numbers = append(numbers, number)
	}
	return numbers
}

// mixed, double and round are the tides A, B and C of the chapter's examples.
func mixed() []int { return list(1, 2, 0, 4, 3) }

func double() []int { return list(1, 0, 3, 2) }

func round() []int { return list(1, 2, 0) }

type badTide struct {
	name string
	tide []int
	want api.Errno
}

func allBadTides() []badTide {
	return []badTide{
		{"no places", nil, api.ErrRange},
		{"no places, but a list", list(), api.ErrRange},
		{"eight places", upTo(8), api.ErrRange},
		{"eight places carried to 0", make([]int, 8), api.ErrRange},
		{"eight places carried to none", slices.Repeat(list(-1), 8), api.ErrRange},
		{"very many places", make([]int, 100000), api.ErrRange},
		{"1 alone", list(1), api.ErrNone},
		{"-1 alone", list(-1), api.ErrNone},
		{"the greatest number alone", list(math.MaxInt), api.ErrNone},
		{"the smallest number alone", list(math.MinInt), api.ErrNone},
		{"a place too great", list(0, 2), api.ErrNone},
		{"places numbered from 1", list(2, 3, 1), api.ErrNone},
		{"a place below 0", list(0, -1, 1), api.ErrNone},
		{"the last of seven too great", list(0, 1, 2, 3, 4, 5, 7), api.ErrNone},
		{"the greatest number behind others", list(1, 0, math.MaxInt), api.ErrNone},
		{"the smallest number behind others", list(1, 0, math.MinInt), api.ErrNone},
		{"too great before one that is there twice", list(0, 5, 0), api.ErrNone},
		{"too great twice", list(3, 3, 0), api.ErrNone},
		{"below 0 twice", list(-1, -1), api.ErrNone},
		{"0 twice", list(0, 0), api.ErrTwice},
		{"1 twice", list(1, 1), api.ErrTwice},
		{"the first one again at the end", list(2, 0, 1, 2), api.ErrTwice},
		{"the last of seven again", list(6, 5, 4, 3, 2, 1, 1), api.ErrTwice},
		{"seven times 0", make([]int, 7), api.ErrTwice},
		{"twice before one too great", list(0, 0, 5), api.ErrTwice},
		{"twice before one below 0", list(1, 1, -1), api.ErrTwice},
	}
}

// P13.1: Check.
func TestCheck(t *testing.T) {
	for _, good := range lists(mixed(), double(), round(), list(0), list(0, 1), list(1, 0), upTo(7), list(6, 5, 4, 3, 2, 1, 0)) {
		if e := wash.Check(good); e != api.OK {
			t.Errorf("Check(%v) = %d, want OK", good, e)
		}
	}
	for _, bad := range allBadTides() {
		if e := wash.Check(bad.tide); e != bad.want {
			t.Errorf("%s: Check = %d, want %d", bad.name, e, bad.want)
		}
	}
}

// question is what functions are asked besides a tide.
type question struct {
	tides, from, to, length int
	other                   []int
}

func someQuestions() []question {
	return []question{
		{0, 0, 0, 2, list(0)},
		{1, 0, 1, 4, round()},
		{-1, 1, 0, 6, double()},
		{7, 2, 2, 3, mixed()},
		{wash.MaxTides, 6, 0, 7, list(1, 2, 3, 4, 5, 6, 0)},
		{-wash.MaxTides, 0, 6, 1, upTo(7)},
		{wash.MaxTides + 1, 7, 0, 8, upTo(8)},
		{-wash.MaxTides - 1, 0, -1, 0, nil},
		{math.MaxInt, math.MaxInt, math.MinInt, math.MaxInt, list(math.MaxInt)},
		{math.MinInt, math.MinInt, math.MaxInt, math.MinInt, list(0, math.MinInt)},
		{3, 1, 2, -2, list(0, 0, 1)},
		{5, 3, 1, 5, make([]int, 100000)},
	}
}

// call is a call of a function: whether it returned nothing besides its error, and this error.
type call struct {
	name string
	run  func() (bool, api.Errno)
}

func listed(l []int, e api.Errno) (bool, api.Errno) { return len(l) == 0, e }

func counted(n int, e api.Errno) (bool, api.Errno) { return n == 0, e }

func said(is bool, e api.Errno) (bool, api.Errno) { return !is, e }

// callsOfOne are the calls of all functions of one tide but Check.
func callsOfOne(tide []int, q question) []call {
	return []call{
		{"After", func() (bool, api.Errno) { return listed(wash.After(tide, q.tides)) }},
		{"Rings", func() (bool, api.Errno) { l, e := wash.Rings(tide); return len(l) == 0, e }},
		{"Back", func() (bool, api.Errno) { return counted(wash.Back(tide)) }},
		{"When", func() (bool, api.Errno) { return counted(wash.When(tide, q.from, q.to)) }},
		{"Odd", func() (bool, api.Errno) { return said(wash.Odd(tide)) }},
		{"Half", func() (bool, api.Errno) { return listed(wash.Half(tide)) }},
		{"Halves", func() (bool, api.Errno) { return counted(wash.Halves(tide)) }},
		{"Why", func() (bool, api.Errno) { return counted(wash.Why(tide)) }},
		{"Proves", func() (bool, api.Errno) { return true, wash.Proves(tide, q.length) }},
		{"Friends", func() (bool, api.Errno) { return counted(wash.Friends(tide)) }},
	}
}

// callsOfTwo are the calls of all functions of two tides.
func callsOfTwo(a, b []int) []call {
	return []call{
		{"Then", func() (bool, api.Errno) { return listed(wash.Then(a, b)) }},
		{"Named", func() (bool, api.Errno) { return listed(wash.Named(a, b)) }},
		{"Alike", func() (bool, api.Errno) { return said(wash.Alike(a, b)) }},
		{"Exchange", func() (bool, api.Errno) { return said(wash.Exchange(a, b)) }},
	}
}

// checkRefused checks that all calls return just an error.
func checkRefused(t *testing.T, name string, calls []call, want api.Errno) {
	t.Helper()
	for _, c := range calls {
		if zero, e := c.run(); !zero || e != want {
			t.Errorf("%s: %s returns error %d, zero value %t, want %d", name, c.name, e, zero, want)
		}
	}
}

// P13.1: the error of the tide comes before all others, that of the first tide before that of the second one, and that of
// the second one before ErrShape; R2: nothing besides it.
func TestBadTidesFirst(t *testing.T) {
	for _, bad := range allBadTides() {
		for _, q := range someQuestions() {
			checkRefused(t, bad.name, callsOfOne(bad.tide, q), bad.want)
			checkRefused(t, bad.name, callsOfTwo(bad.tide, q.other), bad.want)
		}
		for _, good := range lists(list(0), list(1, 0), round(), double(), upTo(7)) {
			checkRefused(t, bad.name+" second", callsOfTwo(good, bad.tide), bad.want)
		}
	}
}

// P13.3, P13.6: ErrShape of two tides; R2: nothing besides it.
func TestShape(t *testing.T) {
	for n := 1; n <= wash.MaxPlaces; n++ {
		for m := 1; m <= wash.MaxPlaces; m++ {
			if n != m {
				checkRefused(t, "other places", callsOfTwo(upTo(n), upTo(m)), api.ErrShape)
			}
		}
	}
	checkRefused(t, "B and C", callsOfTwo(double(), round()), api.ErrShape)
}

// P13.1: After; R2: nothing besides an error.
func TestAfter(t *testing.T) {
	ring := list(3, 5, 1, 6, 0, 4, 2)
	for _, x := range []struct {
		tide  []int
		tides int
		want  []int
		e     api.Errno
	}{
		{mixed(), 2, list(2, 0, 1, 3, 4), api.OK},
		{mixed(), -1, list(2, 0, 1, 4, 3), api.OK},
		{mixed(), 0, list(0, 1, 2, 3, 4), api.OK},
		{mixed(), 1, mixed(), api.OK},
		{mixed(), 6, list(0, 1, 2, 3, 4), api.OK},
		{mixed(), -6, list(0, 1, 2, 3, 4), api.OK},
		{mixed(), -5, mixed(), api.OK},
		{mixed(), wash.MaxTides, list(1, 2, 0, 3, 4), api.OK},
		{mixed(), -wash.MaxTides, list(2, 0, 1, 3, 4), api.OK},
		{mixed(), wash.MaxTides - 1, list(0, 1, 2, 4, 3), api.OK},
		{list(0), wash.MaxTides, list(0), api.OK},
		{list(0), -wash.MaxTides, list(0), api.OK},
		{ring, 2, list(6, 4, 5, 2, 3, 0, 1), api.OK},
		{ring, -2, list(5, 6, 3, 4, 1, 2, 0), api.OK},
		{ring, 7, upTo(7), api.OK},
		// 1000000000 is 7 times 142857142, and 6.
		{ring, wash.MaxTides, list(4, 2, 6, 0, 5, 1, 3), api.OK},
		{ring, -wash.MaxTides, ring, api.OK},
		{mixed(), wash.MaxTides + 1, nil, api.ErrRange},
		{mixed(), -wash.MaxTides - 1, nil, api.ErrRange},
		{list(0), math.MaxInt, nil, api.ErrRange},
		{list(0), math.MinInt, nil, api.ErrRange},
	} {
		if l, e := wash.After(x.tide, x.tides); !slices.Equal(l, x.want) || e != x.e {
			t.Errorf("After(%v, %d) = %v, %d, want %v, %d", x.tide, x.tides, l, e, x.want, x.e)
		}
	}
}

// P13.2: When; R2: nothing besides an error.
func TestWhen(t *testing.T) {
	for _, x := range []struct {
		tide           []int
		from, to, want int
		e              api.Errno
	}{
		{mixed(), 0, 2, 2, api.OK},
		{mixed(), 3, 3, 0, api.OK},
		{mixed(), 2, 0, 1, api.OK},
		{mixed(), 4, 3, 1, api.OK},
		{list(0), 0, 0, 0, api.OK},
		{list(1, 2, 3, 4, 5, 6, 0), 0, 6, 6, api.OK},
		{list(1, 2, 3, 4, 5, 6, 0), 6, 0, 1, api.OK},
		{list(1, 2, 3, 4, 5, 6, 0), 6, 6, 0, api.OK},
		{mixed(), 0, 3, 0, api.ErrLost},
		{mixed(), 4, 2, 0, api.ErrLost},
		{upTo(7), 0, 6, 0, api.ErrLost},
		{mixed(), 0, 5, 0, api.ErrNone},
		{mixed(), 5, 0, 0, api.ErrNone},
		{mixed(), 5, 5, 0, api.ErrNone},
		{mixed(), -1, 0, 0, api.ErrNone},
		{mixed(), 0, -1, 0, api.ErrNone},
		{mixed(), 5, -1, 0, api.ErrNone},
		{list(0), 1, 0, 0, api.ErrNone},
		{mixed(), math.MaxInt, 0, 0, api.ErrNone},
		{mixed(), 3, math.MinInt, 0, api.ErrNone},
	} {
		if n, e := wash.When(x.tide, x.from, x.to); n != x.want || e != x.e {
			t.Errorf("When(%v, %d, %d) = %d, %d, want %d, %d", x.tide, x.from, x.to, n, e, x.want, x.e)
		}
	}
}

// P13.3: Then and Named.
func TestThenAndNamed(t *testing.T) {
	for _, x := range []struct{ first, second, then, named []int }{
		{round(), round(), list(2, 0, 1), round()},
		{round(), list(1, 0, 2), list(0, 2, 1), list(2, 0, 1)},
		{list(1, 0, 2), round(), list(2, 1, 0), list(0, 2, 1)},
		{round(), list(2, 1, 0), list(1, 0, 2), list(2, 0, 1)},
		{list(0), list(0), list(0), list(0)},
		{list(1, 0), list(1, 0), list(0, 1), list(1, 0)},
		{double(), upTo(4), double(), double()},
		{upTo(4), double(), double(), upTo(4)},
		{mixed(), list(4, 3, 2, 1, 0), list(3, 2, 4, 0, 1), list(1, 0, 4, 2, 3)},
		{list(1, 0, 2, 3, 4, 5, 6), list(1, 2, 3, 4, 5, 6, 0), list(2, 1, 3, 4, 5, 6, 0), list(0, 2, 1, 3, 4, 5, 6)},
	} {
		if l, e := wash.Then(x.first, x.second); !slices.Equal(l, x.then) || e != api.OK {
			t.Errorf("Then(%v, %v) = %v, %d, want %v", x.first, x.second, l, e, x.then)
		}
		if l, e := wash.Named(x.first, x.second); !slices.Equal(l, x.named) || e != api.OK {
			t.Errorf("Named(%v, %v) = %v, %d, want %v", x.first, x.second, l, e, x.named)
		}
	}
}

// known is a tide, and what is known of it. It has no half if there is an even length of an odd number of rings.
type known struct {
	tide    []int
	rings   [][]int
	back    int
	odd     bool
	half    []int
	halves  int
	why     int
	friends int
}

func allKnown() []known {
	return []known{
		{mixed(), lists(list(0, 1, 2), list(3, 4)), 6, true, nil, 0, 2, 6},
		{double(), lists(list(0, 1), list(2, 3)), 2, false, list(2, 3, 1, 0), 2, 0, 8},
		{round(), lists(list(0, 1, 2)), 3, false, list(2, 0, 1), 1, 0, 3},
		{list(0), lists(list(0)), 1, false, list(0), 1, 0, 1},
		{list(0, 1, 2), lists(list(0), list(1), list(2)), 1, false, list(0, 1, 2), 4, 0, 6},
		{list(1, 0), lists(list(0, 1)), 2, true, nil, 0, 2, 2},
		{list(1, 2, 3, 0), lists(list(0, 1, 2, 3)), 4, true, nil, 0, 4, 4},
		{list(1, 2, 3, 4, 5, 0), lists(list(0, 1, 2, 3, 4, 5)), 6, true, nil, 0, 6, 6},
		{list(4, 0, 3, 2, 1), lists(list(0, 4, 1), list(2, 3)), 6, true, nil, 0, 2, 6},
		// Two reasons: a ring of two places, and one of four; so it is not odd.
		{list(1, 2, 3, 0, 5, 4), lists(list(0, 1, 2, 3), list(4, 5)), 4, false, nil, 0, 2, 8},
		{list(1, 0, 3, 2, 5, 4), lists(list(0, 1), list(2, 3), list(4, 5)), 2, true, nil, 0, 2, 48},
		{list(1, 0, 3, 2, 6, 4, 5), lists(list(0, 1), list(2, 3), list(4, 6, 5)), 6, false, list(2, 3, 1, 0, 5, 6, 4), 2, 0, 24},
		{list(2, 0, 1, 4, 5, 6, 3), lists(list(0, 2, 1), list(3, 4, 5, 6)), 12, true, nil, 0, 4, 12},
		{list(1, 0, 2, 4, 5, 6, 3), lists(list(0, 1), list(2), list(3, 4, 5, 6)), 4, false, nil, 0, 2, 8},
		{list(1, 2, 3, 4, 0, 6, 5), lists(list(0, 1, 2, 3, 4), list(5, 6)), 10, true, nil, 0, 2, 10},
		// Two rings of three are halved each, or together in three ways.
		{list(1, 2, 0, 4, 5, 3), lists(list(0, 1, 2), list(3, 4, 5)), 3, false, list(2, 0, 1, 5, 3, 4), 4, 0, 18},
		{list(1, 2, 3, 4, 5, 6, 0), lists(list(0, 1, 2, 3, 4, 5, 6)), 7, false, list(4, 5, 6, 0, 1, 2, 3), 1, 0, 7},
		{upTo(7), lists(list(0), list(1), list(2), list(3), list(4), list(5), list(6)), 1, false, upTo(7), 232, 0, 5040},
		{list(6, 5, 4, 3, 2, 1, 0), lists(list(0, 6), list(1, 5), list(2, 4), list(3)), 2, true, nil, 0, 2, 48},
	}
}

// P13.2: Rings and Back; P13.3: Odd; P13.4: Half and Halves; P13.5: Why; P13.6: Friends.
func TestKnown(t *testing.T) {
	for _, x := range allKnown() {
		if l, e := wash.Rings(x.tide); !equalLists(l, x.rings) || e != api.OK {
			t.Errorf("Rings(%v) = %v, %d, want %v", x.tide, l, e, x.rings)
		}
		if n, e := wash.Back(x.tide); n != x.back || e != api.OK {
			t.Errorf("Back(%v) = %d, %d, want %d", x.tide, n, e, x.back)
		}
		if is, e := wash.Odd(x.tide); is != x.odd || e != api.OK {
			t.Errorf("Odd(%v) = %t, %d, want %t", x.tide, is, e, x.odd)
		}
		lost, clash := api.OK, api.ErrClash
		if x.why != 0 {
			lost, clash = api.ErrLost, api.OK
		}
		if l, e := wash.Half(x.tide); !slices.Equal(l, x.half) || e != lost {
			t.Errorf("Half(%v) = %v, %d, want %v, %d", x.tide, l, e, x.half, lost)
		}
		if n, e := wash.Halves(x.tide); n != x.halves || e != api.OK {
			t.Errorf("Halves(%v) = %d, %d, want %d", x.tide, n, e, x.halves)
		}
		if n, e := wash.Why(x.tide); n != x.why || e != clash {
			t.Errorf("Why(%v) = %d, %d, want %d, %d", x.tide, n, e, x.why, clash)
		}
		if n, e := wash.Friends(x.tide); n != x.friends || e != api.OK {
			t.Errorf("Friends(%v) = %d, %d, want %d", x.tide, n, e, x.friends)
		}
	}
}

// P13.5: Proves.
func TestProves(t *testing.T) {
	for _, x := range []struct {
		tide   []int
		length int
		want   api.Errno
	}{
		{mixed(), 2, api.OK},
		{mixed(), 3, api.ErrProof},
		{mixed(), 4, api.ErrProof},
		{mixed(), 1, api.ErrProof},
		{mixed(), 6, api.ErrProof},
		{mixed(), 7, api.ErrProof},
		{double(), 2, api.ErrProof},
		{double(), 4, api.ErrProof},
		{round(), 3, api.ErrProof},
		{list(0), 1, api.ErrProof},
		{list(0), 2, api.ErrProof},
		{list(0), 7, api.ErrProof},
		{list(1, 0), 2, api.OK},
		{list(1, 2, 3, 0), 4, api.OK},
		{list(1, 2, 3, 0), 2, api.ErrProof},
		{list(1, 2, 3, 0, 5, 4), 2, api.OK},
		{list(1, 2, 3, 0, 5, 4), 4, api.OK},
		{list(1, 2, 3, 4, 5, 0), 6, api.OK},
		{list(1, 2, 3, 4, 5, 0, 6), 6, api.OK},
		{list(1, 2, 3, 4, 5, 0, 6), 1, api.ErrProof},
		{list(1, 2, 3, 4, 5, 6, 0), 7, api.ErrProof},
		{list(1, 0, 3, 2, 5, 4), 2, api.OK},
		{mixed(), 8, api.ErrRange},
		{mixed(), 0, api.ErrRange},
		{mixed(), -2, api.ErrRange},
		{list(1, 0), 10, api.ErrRange},
		{list(1, 0), math.MaxInt, api.ErrRange},
		{list(1, 0), math.MinInt, api.ErrRange},
	} {
		if e := wash.Proves(x.tide, x.length); e != x.want {
			t.Errorf("Proves(%v, %d) = %d, want %d", x.tide, x.length, e, x.want)
		}
	}
}

// P13.6: Alike and Exchange.
func TestAlikeAndExchange(t *testing.T) {
	for _, x := range []struct {
		a, b            []int
		alike, exchange bool
	}{
		{mixed(), list(1, 0, 3, 4, 2), true, false},
		{mixed(), mixed(), true, true},
		{mixed(), upTo(5), false, true},
		{double(), list(1, 2, 3, 0), false, false},
		{double(), list(2, 3, 0, 1), true, true},
		{double(), list(1, 0, 2, 3), false, true},
		{round(), list(1, 0, 2), false, false},
		{round(), list(2, 0, 1), true, true},
		{list(0), list(0), true, true},
		// As many rings, but of other lengths.
		{list(1, 2, 0, 4, 5, 3), list(1, 2, 3, 0, 5, 4), false, false},
		{list(1, 2, 3, 4, 0, 5, 6), list(1, 2, 3, 0, 5, 4, 6), false, false},
		{list(1, 2, 3, 4, 5, 6, 0), list(1, 2, 3, 4, 5, 0, 6), false, false},
		{list(1, 2, 3, 4, 5, 0, 6), list(0, 2, 3, 4, 5, 6, 1), true, false},
	} {
		if is, e := wash.Alike(x.a, x.b); is != x.alike || e != api.OK {
			t.Errorf("Alike(%v, %v) = %t, %d, want %t", x.a, x.b, is, e, x.alike)
		}
		if is, e := wash.Exchange(x.a, x.b); is != x.exchange || e != api.OK {
			t.Errorf("Exchange(%v, %v) = %t, %d, want %t", x.a, x.b, is, e, x.exchange)
		}
	}
}

// withSpare returns a copy of a list with an element behind its end, which must not be written to either.
func withSpare(numbers []int) []int { return append(slices.Clone(numbers), -7)[:len(numbers)] }

// overwrite writes to all memory of a list, also behind its end.
func overwrite(l []int) {
	l = l[:cap(l)]
	for i := range l {
		l[i] = -99
	}
}

// listsTold returns what the functions return that return lists.
func listsTold(tide []int, q question) [][]int {
	after, _ := wash.After(tide, q.tides)
	then, _ := wash.Then(tide, q.other)
	again, _ := wash.Then(q.other, tide)
	named, _ := wash.Named(tide, q.other)
	half, _ := wash.Half(tide)
	rings, _ := wash.Rings(tide)
	return append(lists(after, then, again, named, half), rings...)
}

// R4: arguments stay as they were, and results share no memory with them or with one another.
func TestOwnMemory(t *testing.T) {
	for _, tide := range lists(double(), upTo(4), list(1, 2, 0, 3), list(0, 3, 1, 2), list(3, 2, 1, 0)) {
		for _, tides := range list(0, 1, 4, 6, -1) {
			q := question{tides: tides, from: 1, to: 2, length: 2, other: withSpare(list(0, 2, 1, 3))}
			spare := withSpare(tide)
			want := listsTold(tide, q)
			told, again := listsTold(spare, q), listsTold(spare, q)
			for i := range want {
				overwrite(told[i])
				if !equalLists(told[i+1:], want[i+1:]) || !equalLists(again, want) {
					t.Fatalf("%v: %v and %v after another result was overwritten, want %v", tide, told[i+1:], again, want)
				}
			}
			for _, c := range append(callsOfOne(spare, q), callsOfTwo(spare, q.other)...) {
				c.run()
			}
			wash.Check(spare)
			for _, both := range [][2][]int{{spare, tide}, {q.other, list(0, 2, 1, 3)}} {
				if all := append(slices.Clone(both[1]), -7); !slices.Equal(both[0][:len(all)], all) {
					t.Errorf("an argument was changed: %v, want %v", both[0][:len(all)], all)
				}
			}
		}
	}
}

// answers calls all functions and returns all that they return as numbers.
func answers(tide []int, q question) []int {
	all := list(int(wash.Check(tide)))
	for _, told := range listsTold(tide, q) {
		all = append(append(all, len(told)), told...)
	}
	back, _ := wash.Back(tide)
	when, _ := wash.When(tide, q.from, q.to)
	halves, _ := wash.Halves(tide)
	why, _ := wash.Why(tide)
	friends, _ := wash.Friends(tide)
	all = append(all, back, when, halves, why, friends)
	for _, c := range append(callsOfOne(tide, q), append(callsOfTwo(tide, q.other), callsOfTwo(q.other, tide)...)...) {
		zero, e := c.run()
		all = append(all, int(e))
		if zero {
			all = append(all, -1)
		}
	}
	return all
}

// P1: every function returns for all arguments, and the same for equal ones; R3: nil is a list without elements.
func TestAllArguments(t *testing.T) {
	var some [][]int
	for _, bad := range allBadTides() {
		some = append(some, bad.tide)
	}
	for _, x := range allKnown() {
		some = append(some, x.tide)
	}
	for _, tide := range some {
		for _, q := range someQuestions() {
			again := q
			again.other = slices.Clone(q.other)
			if got, want := answers(slices.Clone(tide), again), answers(tide, q); !slices.Equal(got, want) {
				t.Fatalf("%.10v, %.10v: %v, then %v", tide, q, want, got)
			}
		}
		got, want := answers(tide, question{other: nil}), answers(tide, question{other: list()})
		if !slices.Equal(got, want) {
			t.Errorf("%.10v: %v with nil, %v with a list without elements", tide, got, want)
		}
	}
	if got, want := answers(nil, question{}), answers(list(), question{}); !slices.Equal(got, want) {
		t.Errorf("%v with nil, %v with a list without elements", got, want)
	}
}
