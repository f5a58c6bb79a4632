package sherd_test

import (
	"math"
	"slices"
	"strings"
	"testing"

	"bellarmine/api"
	"bellarmine/sherd"
)

// joins returns joins, two numbers each.
func joins(numbers ...int) [][2]int {
	var l [][2]int
	for i := 0; i < len(numbers); i += 2 {
		l = append(l, [2]int{numbers[i], numbers[i+1]})
	}
	return l
}

// p, q and r are the rims of the chapter's examples.
const (
	p = "abBA"
	q = "abAB"
	r = "aAaA"
)

const allLetters = "abcdefghijABCDEFGHIJ"

type badRim struct {
	name string
	rim  string
	want api.Errno
}

func allBadRims() []badRim {
	bad := []badRim{
		{"13 letters", strings.Repeat("a", 13), api.ErrMany},
		{"13 letters before their form", strings.Repeat("k", 13), api.ErrMany},
		{"a wrong letter before 13 letters", "?" + strings.Repeat("a", 12), api.ErrMany},
		{"12 signs of 13 bytes", strings.Repeat("a", 11) + "é", api.ErrMany},
		{"7 signs of 14 bytes", strings.Repeat("é", 7), api.ErrMany},
		{"13 bytes that are no text", strings.Repeat("\xff", 13), api.ErrMany},
		{"a long text", strings.Repeat("aA", 40000), api.ErrMany},
		{"a wrong letter at the end", "abk", api.ErrForm},
		{"a wrong letter at the beginning", "Kab", api.ErrForm},
		{"a wrong letter in the middle", "aA-bB", api.ErrForm},
		{"a wrong letter at the end of 12", strings.Repeat("a", 11) + "z", api.ErrForm},
		{"signs of 12 bytes", strings.Repeat("a", 10) + "é", api.ErrForm},
		{"a sign above 255 whose lowest byte is a", "š", api.ErrForm},
		{"a sign above 255 whose lowest byte is A", "Ł", api.ErrForm},
		{"a wide letter", "ａ", api.ErrForm},
		{"half of a sign", "a\xc3", api.ErrForm},
		{"a byte with its highest bit set", "\xe1", api.ErrForm},
		{"a byte 0", "a\x00A", api.ErrForm},
		{"a line end", "aA\n", api.ErrForm},
	}
	for letter := range 256 {
		if s := string([]byte{byte(letter)}); !strings.Contains(allLetters, s) {
			bad = append(bad, badRim{"one byte " + s, s, api.ErrForm})
		}
	}
	return bad
}

// P5.1.
func TestCheck(t *testing.T) {
	good := []string{"", p, q, r, "abcdefghij", "ABCDEFGHIJ", "jJaA", strings.Repeat("aB", 6), strings.Repeat("J", 12)}
	for _, rim := range append(good, strings.Split(allLetters, "")...) {
		if e := sherd.Check(rim); e != api.OK {
			t.Errorf("Check(%q) = %d, want OK", rim, e)
		}
	}
	for _, bad := range allBadRims() {
		if e := sherd.Check(bad.rim); e != bad.want {
			t.Errorf("%s: Check = %d, want %d", bad.name, e, bad.want)
		}
	}
}

// call is a call of a function: whether it returned nothing besides its error, and this error.
type call struct {
	name string
	run  func() (bool, api.Errno)
}

// calls are the calls of all functions but Check; they have the given arguments besides the rim, if any.
func calls(rim string, l [][2]int, by int, other string) []call {
	return []call{
		{"Valid", func() (bool, api.Errno) { return true, sherd.Valid(rim, l) }},
		{"Most", func() (bool, api.Errno) { got, e := sherd.Most(rim); return got == 0, e }},
		{"First", func() (bool, api.Errno) { got, e := sherd.First(rim); return len(got) == 0, e }},
		{"Count", func() (bool, api.Errno) { got, e := sherd.Count(rim); return got == 0, e }},
		{"Forced", func() (bool, api.Errno) { got, e := sherd.Forced(rim); return len(got) == 0, e }},
		{"Steps", func() (bool, api.Errno) { got, e := sherd.Steps(rim); return len(got) == 0, e }},
		{"Rest", func() (bool, api.Errno) { got, e := sherd.Rest(rim); return got == "", e }},
		{"Full", func() (bool, api.Errno) { got, e := sherd.Full(rim); return !got, e }},
		{"Core", func() (bool, api.Errno) { got, e := sherd.Core(rim); return got == "", e }},
		{"Turn", func() (bool, api.Errno) { got, e := sherd.Turn(rim, by); return got == "", e }},
		{"Opposite", func() (bool, api.Errno) { got, e := sherd.Opposite(rim); return got == "", e }},
		{"Alike", func() (bool, api.Errno) { got, e := sherd.Alike(rim, other); return !got, e }},
	}
}

// P5.1: the error of the rim comes before those of all other arguments; R2: nothing besides it.
func TestBadRimsFirst(t *testing.T) {
	for _, bad := range allBadRims() {
		for _, l := range [][][2]int{nil, joins(0, 1), joins(1, 0), joins(-1, 99)} {
			for _, by := range []int{0, -1, 99} {
				for _, c := range calls(bad.rim, l, by, bad.rim) {
					if zero, e := c.run(); !zero || e != bad.want {
						t.Errorf("%s: %s returns error %d, zero value %t, want %d", bad.name, c.name, e, zero, bad.want)
					}
				}
			}
		}
	}
}

// P5.5: the error of the first rim of Alike comes before that of the second one.
func TestAlikeOfBadRims(t *testing.T) {
	many := strings.Repeat("a", 13)
	for _, x := range []struct {
		a, b string
		want api.Errno
	}{
		{many, "?", api.ErrMany},
		{"?", many, api.ErrForm},
		{"a", many, api.ErrMany},
		{"a", "?", api.ErrForm},
		{"", "k", api.ErrForm},
		{many, "a", api.ErrMany},
		{"?", "", api.ErrForm},
		{"k", "k", api.ErrForm},
		{many, many, api.ErrMany},
	} {
		if is, e := sherd.Alike(x.a, x.b); is || e != x.want {
			t.Errorf("Alike(%q, %q) = %t, %d, want %d", x.a, x.b, is, e, x.want)
		}
	}
}

// P5.1.
func TestValid(t *testing.T) {
	for _, x := range []struct {
		name string
		rim  string
		l    [][2]int
		want api.Errno
	}{
		{"a full plan", p, joins(0, 3, 1, 2), api.OK},
		{"the inner join alone", p, joins(1, 2), api.OK},
		{"the outer join alone", p, joins(0, 3), api.OK},
		{"no joins", p, nil, api.OK},
		{"no joins of an empty rim", "", joins(), api.OK},
		{"joins side by side", r, joins(0, 1, 2, 3), api.OK},
		{"joins one within the other", r, joins(0, 3, 1, 2), api.OK},
		{"a capital first", "Aa", joins(0, 1), api.OK},
		{"one of two that would cross", q, joins(1, 3), api.OK},
		{"a join within two, and one beside", "abcCBAdD", joins(0, 5, 1, 4, 2, 3, 6, 7), api.OK},
		{"twelve edges", "jJjJjJjJjJjJ", joins(0, 11, 1, 10, 2, 9, 3, 8, 4, 7, 5, 6), api.OK},

		{"an edge of 4", r, joins(0, 4), api.ErrNone},
		{"an edge below 0", p, joins(-1, 3), api.ErrNone},
		{"an edge of none", "", joins(0, 0), api.ErrNone},
		{"numbers at the ends of int", p, joins(math.MinInt, math.MaxInt), api.ErrNone},
		{"numbers at the ends of int, the greater one first", p, joins(math.MaxInt, math.MinInt), api.ErrNone},
		{"no edge, and the greater one first", p, joins(4, 0), api.ErrNone},
		{"no edge below 0, and the greater one first", p, joins(3, -1), api.ErrNone},
		{"no edge twice", p, joins(4, 4), api.ErrNone},
		{"no edge, and one of a join before", r, joins(0, 1, 1, 4), api.ErrNone},
		{"no edge behind a right join", r, joins(0, 1, 2, 4), api.ErrNone},

		{"the greater edge first", p, joins(1, 0), api.ErrOrder},
		{"the greater edge first, though both fit", p, joins(3, 0), api.ErrOrder},
		{"an edge with itself", p, joins(1, 1), api.ErrOrder},
		{"the greater edge first, and one of a join before", r, joins(0, 1, 2, 1), api.ErrOrder},
		{"the same join turned round", r, joins(0, 1, 1, 0), api.ErrOrder},
		{"an edge of a join before with itself", r, joins(0, 1, 1, 1), api.ErrOrder},

		{"the first edge again", r, joins(0, 1, 0, 3), api.ErrTwice},
		{"the second edge again, as the first one", r, joins(0, 1, 1, 2), api.ErrTwice},
		{"the second edge again, as the second one", "aabA", joins(0, 3, 1, 3), api.ErrTwice},
		{"the first edge again, as the second one", r, joins(1, 2, 0, 1), api.ErrTwice},
		{"the same join", r, joins(0, 1, 0, 1), api.ErrTwice},
		{"an edge again before what does not fit", p, joins(0, 3, 0, 2), api.ErrTwice},
		{"an edge of the join before the last one", "aAaAaA", joins(0, 1, 2, 3, 1, 4), api.ErrTwice},
		{"an edge again of a join that descends", "aAaAaA", joins(2, 3, 4, 5, 0, 3), api.ErrTwice},

		{"other letters", p, joins(0, 2), api.ErrClash},
		{"two small letters", "aa", joins(0, 1), api.ErrClash},
		{"two capitals", "AA", joins(0, 1), api.ErrClash},
		{"neighbours in the alphabet", "aB", joins(0, 1), api.ErrClash},
		{"a clash before a wrong edge", "ab", joins(0, 1, 5, 5), api.ErrClash},
		{"a clash that crosses", "abAb", joins(0, 2, 1, 3), api.ErrClash},
		{"a clash that descends", "abAB", joins(2, 3), api.ErrClash},

		{"a cross", q, joins(0, 2, 1, 3), api.ErrShape},
		{"a cross that descends", q, joins(1, 3, 0, 2), api.ErrShape},
		{"a cross with the join before the last one", "abcCAB", joins(0, 4, 2, 3, 1, 5), api.ErrShape},
		{"a cross out of the one before", "abAcBC", joins(1, 4, 3, 5), api.ErrShape},
		{"a cross before an edge twice", q, joins(0, 2, 1, 3, 0, 2), api.ErrShape},

		{"a descent", r, joins(2, 3, 0, 1), api.ErrOrder},
		{"a descent to the join around", r, joins(1, 2, 0, 3), api.ErrOrder},
		{"a descent behind an ascent", "aAbBcC", joins(0, 1, 4, 5, 2, 3), api.ErrOrder},
		{"a descent before a cross", "abABcC", joins(4, 5, 0, 2, 1, 3), api.ErrOrder},
	} {
		if e := sherd.Valid(x.rim, x.l); e != x.want {
			t.Errorf("%s: Valid(%q, %v) = %d, want %d", x.name, x.rim, x.l, e, x.want)
		}
	}
	if e := sherd.Valid(r, slices.Repeat(joins(0, 1), 100000)); e != api.ErrTwice {
		t.Errorf("the same join very often: Valid = %d, want ErrTwice", e)
	}
}

// P5.2, P5.3.
func TestPlans(t *testing.T) {
	for _, x := range []struct {
		rim    string
		count  int
		first  [][2]int
		forced [][2]int
	}{
		{p, 1, joins(0, 3, 1, 2), joins(0, 3, 1, 2)},
		{q, 2, joins(0, 2), nil},
		{r, 2, joins(0, 1, 2, 3), nil},
		{"abc", 1, nil, nil},
		{"", 1, nil, nil},
		{"a", 1, nil, nil},
		{"J", 1, nil, nil},
		{"aA", 1, joins(0, 1), joins(0, 1)},
		{"Aa", 1, joins(0, 1), joins(0, 1)},
		{"aa", 1, nil, nil},
		{"AA", 1, nil, nil},
		{"aB", 1, nil, nil},
		{"aAa", 2, joins(0, 1), nil},
		{"aaA", 2, joins(0, 2), nil},
		{"abA", 1, joins(0, 2), joins(0, 2)},
		{"baA", 1, joins(1, 2), joins(1, 2)},
		{"abcABC", 3, joins(0, 3), nil},
		{"abcCAB", 2, joins(0, 4, 2, 3), joins(2, 3)},
		{"abBcCA", 1, joins(0, 5, 1, 2, 3, 4), joins(0, 5, 1, 2, 3, 4)},
		{"abcAcCBbB", 6, joins(0, 3, 4, 5, 6, 7), nil},
		// The join that begins first is in no greatest plan.
		{"abcACB", 1, joins(1, 5, 2, 4), joins(1, 5, 2, 4)},
		// The nearest fitting edge is not the one of the first greatest plan.
		{"abAcCBA", 1, joins(0, 6, 1, 5, 3, 4), joins(0, 6, 1, 5, 3, 4)},
		{"cabBAaA", 2, joins(1, 4, 2, 3, 5, 6), joins(2, 3)},
		{"aAbB", 1, joins(0, 1, 2, 3), joins(0, 1, 2, 3)},
		{"aAaAbB", 2, joins(0, 1, 2, 3, 4, 5), joins(4, 5)},
		{"bBaAaA", 2, joins(0, 1, 2, 3, 4, 5), joins(0, 1)},
		{"baAaAB", 2, joins(0, 5, 1, 2, 3, 4), joins(0, 5)},
		{"aAaAaA", 5, joins(0, 1, 2, 3, 4, 5), nil},
		{"aaaAAA", 1, joins(0, 5, 1, 4, 2, 3), joins(0, 5, 1, 4, 2, 3)},
		{strings.Repeat("a", 12), 1, nil, nil},
		{strings.Repeat("aA", 6), 132, joins(0, 1, 2, 3, 4, 5, 6, 7, 8, 9, 10, 11), nil},
		{"abcdefFEDCBA", 1, joins(0, 11, 1, 10, 2, 9, 3, 8, 4, 7, 5, 6), joins(0, 11, 1, 10, 2, 9, 3, 8, 4, 7, 5, 6)},
		{"abcdefABCDEF", 6, joins(0, 6), nil},
	} {
		if n, e := sherd.Most(x.rim); n != len(x.first) || e != api.OK {
			t.Errorf("Most(%q) = %d, %d, want %d", x.rim, n, e, len(x.first))
		}
		if n, e := sherd.Count(x.rim); n != x.count || e != api.OK {
			t.Errorf("Count(%q) = %d, %d, want %d", x.rim, n, e, x.count)
		}
		if l, e := sherd.First(x.rim); !slices.Equal(l, x.first) || e != api.OK {
			t.Errorf("First(%q) = %v, %d, want %v", x.rim, l, e, x.first)
		}
		if l, e := sherd.Forced(x.rim); !slices.Equal(l, x.forced) || e != api.OK {
			t.Errorf("Forced(%q) = %v, %d, want %v", x.rim, l, e, x.forced)
		}
	}
}

// P5.4, P5.5.
func TestRest(t *testing.T) {
	for _, x := range []struct {
		rim, rest, core, opposite string
		steps                     [][2]int
	}{
		{p, "", "", "abBA", joins(1, 2, 0, 3)},
		{q, "abAB", "abAB", "baBA", nil},
		{r, "", "", "aAaA", joins(0, 1, 2, 3)},
		{"", "", "", "", nil},
		{"a", "a", "a", "A", nil},
		{"J", "J", "J", "j", nil},
		{"aA", "", "", "aA", joins(0, 1)},
		{"Aa", "", "", "Aa", joins(0, 1)},
		{"aa", "aa", "aa", "AA", nil},
		{"aB", "aB", "aB", "bA", nil},
		{"abC", "abC", "abC", "cBA", nil},
		{"aAa", "a", "a", "AaA", joins(0, 1)},
		{"aaA", "a", "a", "aAA", joins(1, 2)},
		// The first and the last edge fit, but they are not next to one another.
		{"abA", "abA", "b", "aBA", nil},
		{"aabAA", "aabAA", "b", "aaBAA", nil},
		{"bacAB", "bacAB", "c", "baCAB", nil},
		{"acbA", "acbA", "cb", "aBCA", nil},
		{"aabBcA", "aacA", "ac", "aCbBAA", joins(2, 3)},
		{"abBc", "ac", "ac", "CbBA", joins(1, 2)},
		{"cabBAa", "ca", "ca", "AabBAC", joins(2, 3, 1, 4)},
		{"aAbBcC", "", "", "cCbBaA", joins(0, 1, 2, 3, 4, 5)},
		{"abBcCA", "", "", "acCbBA", joins(1, 2, 3, 4, 0, 5)},
		{"abBAcC", "", "", "cCabBA", joins(1, 2, 0, 3, 4, 5)},
		{"AbcCBdDa", "", "", "AdDbcCBa", joins(2, 3, 1, 4, 5, 6, 0, 7)},
		{"abcdefFEDCBA", "", "", "abcdefFEDCBA", joins(5, 6, 4, 7, 3, 8, 2, 9, 1, 10, 0, 11)},
		{"abcdefEDCBAa", "abcdefEDCB", "abcdefEDCB", "AabcdeFEDCBA", joins(10, 11)},
		{"abcdejEDCBAj", "abcdejEDCBAj", "abcdejEDCBAj", "JabcdeJEDCBA", nil},
	} {
		if l, e := sherd.Steps(x.rim); !slices.Equal(l, x.steps) || e != api.OK {
			t.Errorf("Steps(%q) = %v, %d, want %v", x.rim, l, e, x.steps)
		}
		if s, e := sherd.Rest(x.rim); s != x.rest || e != api.OK {
			t.Errorf("Rest(%q) = %q, %d, want %q", x.rim, s, e, x.rest)
		}
		if full, e := sherd.Full(x.rim); full != (x.rest == "") || e != api.OK {
			t.Errorf("Full(%q) = %t, %d", x.rim, full, e)
		}
		if s, e := sherd.Core(x.rim); s != x.core || e != api.OK {
			t.Errorf("Core(%q) = %q, %d, want %q", x.rim, s, e, x.core)
		}
		if s, e := sherd.Opposite(x.rim); s != x.opposite || e != api.OK {
			t.Errorf("Opposite(%q) = %q, %d, want %q", x.rim, s, e, x.opposite)
		}
	}
	if s, e := sherd.Opposite("abcdefghij"); s != "JIHGFEDCBA" || e != api.OK {
		t.Errorf("the opposite of all small letters is %q, %d", s, e)
	}
	if s, e := sherd.Opposite("ABCDEFGHIJ"); s != "jihgfedcba" || e != api.OK {
		t.Errorf("the opposite of all capitals is %q, %d", s, e)
	}
}

// P5.5; R2: nothing besides an error.
func TestTurn(t *testing.T) {
	for _, x := range []struct {
		rim  string
		by   int
		want string
		e    api.Errno
	}{
		{q, 0, "abAB", api.OK},
		{q, 1, "bABa", api.OK},
		{q, 2, "ABab", api.OK},
		{q, 3, "BabA", api.OK},
		{q, 4, "", api.ErrRange},
		{q, 5, "", api.ErrRange},
		{q, -1, "", api.ErrRange},
		{q, math.MaxInt, "", api.ErrRange},
		{q, math.MinInt, "", api.ErrRange},
		{"", 0, "", api.OK},
		{"", 1, "", api.ErrRange},
		{"", -1, "", api.ErrRange},
		{"a", 0, "a", api.OK},
		{"a", 1, "", api.ErrRange},
		{"a", -1, "", api.ErrRange},
		{"aA", 1, "Aa", api.OK},
		{"abcdefghijAB", 11, "BabcdefghijA", api.OK},
		{"abcdefghijAB", 12, "", api.ErrRange},
	} {
		if s, e := sherd.Turn(x.rim, x.by); s != x.want || e != x.e {
			t.Errorf("Turn(%q, %d) = %q, %d, want %q, %d", x.rim, x.by, s, e, x.want, x.e)
		}
	}
}

// P5.5.
func TestAlike(t *testing.T) {
	for _, x := range []struct {
		a, b string
		want bool
	}{
		{"abA", "b", true},
		{q, "bABa", true},
		{q, "BabA", true},
		{"ab", "ba", true},
		{"ab", "aB", false},
		{"ab", "AB", false},
		{"", "", true},
		{p, "", true},
		{p, r, true},
		{"a", "", false},
		{"a", "a", true},
		{"a", "A", false},
		{"aab", "aba", true},
		{"aab", "baa", true},
		{"aab", "abb", false},
		// The letters are the same ones, but in another order.
		{"aabb", "abab", false},
		{"abc", "acb", false},
		{"abc", "cab", true},
		// One of the cores is within the other one.
		{"abab", "ab", false},
		{"aaa", "aa", false},
		{"cabBAabC", "ba", true},
		// A rim, and its opposite, with the same letters.
		{q, "baBA", false},
		{"abcdefghijab", "ghijababcdef", true},
		{"abcdefghijab", "ghijabbacdef", false},
	} {
		if is, e := sherd.Alike(x.a, x.b); is != x.want || e != api.OK {
			t.Errorf("Alike(%q, %q) = %t, %d, want %t", x.a, x.b, is, e, x.want)
		}
		if is, e := sherd.Alike(x.b, x.a); is != x.want || e != api.OK {
			t.Errorf("Alike(%q, %q) = %t, %d, want %t", x.b, x.a, is, e, x.want)
		}
	}
}

// overwrite writes to all memory of a list, also behind its end.
func overwrite(l [][2]int) {
	l = l[:cap(l)]
	for i := range l {
		l[i] = [2]int{-99, -99}
	}
}

// R4: arguments stay as they were, and results share no memory with them or with one another.
func TestOwnMemory(t *testing.T) {
	plan := append(joins(0, 3, 1, 2), [2]int{-7, -7})
	for range 2 {
		if e := sherd.Valid(p, plan[:2]); e != api.OK {
			t.Fatalf("Valid of %v = %d", plan, e)
		}
		first, _ := sherd.First(p)
		forced, _ := sherd.Forced(p)
		steps, _ := sherd.Steps(p)
		if !slices.Equal(first, joins(0, 3, 1, 2)) {
			t.Fatalf("First = %v after other results were overwritten", first)
		}
		overwrite(first)
		if !slices.Equal(forced, joins(0, 3, 1, 2)) {
			t.Fatalf("Forced = %v after other results were overwritten", forced)
		}
		overwrite(forced)
		if !slices.Equal(steps, joins(1, 2, 0, 3)) {
			t.Fatalf("Steps = %v after other results were overwritten", steps)
		}
		overwrite(steps)
	}
	sherd.Valid(q, joins(1, 3, 0, 2))
	if !slices.Equal(plan, joins(0, 3, 1, 2, -7, -7)) {
		t.Errorf("joins were changed: %v", plan)
	}
}

// answers are all that the functions return.
type answers struct {
	numbers, errors []int
	texts           []string
	truths          []bool
	lists           [][][2]int
}

func (a answers) same(b answers) bool {
	return slices.Equal(a.numbers, b.numbers) && slices.Equal(a.errors, b.errors) && slices.Equal(a.texts, b.texts) &&
		slices.Equal(a.truths, b.truths) && slices.EqualFunc(a.lists, b.lists, slices.Equal[[][2]int])
}

func allAnswers(rim string, l [][2]int, by int, other string) answers {
	var a answers
	fail := func(e api.Errno) { a.errors = append(a.errors, int(e)) }
	number := func(n int, e api.Errno) { a.numbers = append(a.numbers, n); fail(e) }
	text := func(s string, e api.Errno) { a.texts = append(a.texts, s); fail(e) }
	truth := func(is bool, e api.Errno) { a.truths = append(a.truths, is); fail(e) }
	list := func(l [][2]int, e api.Errno) { a.lists = append(a.lists, l); fail(e) }
	fail(sherd.Check(rim))
	fail(sherd.Valid(rim, l))
	number(sherd.Most(rim))
	list(sherd.First(rim))
	number(sherd.Count(rim))
	list(sherd.Forced(rim))
	list(sherd.Steps(rim))
	text(sherd.Rest(rim))
	truth(sherd.Full(rim))
	text(sherd.Core(rim))
	text(sherd.Turn(rim, by))
	text(sherd.Opposite(rim))
	truth(sherd.Alike(rim, other))
	return a
}

// P1: every function returns for all arguments, and the same for equal ones; R3: nil is a list without elements.
func TestAllArguments(t *testing.T) {
	rims := []string{"", "a", "Z", p, q, r, "bacAB", "\x00", "\xff\xfe", "é", "ａ", strings.Repeat("aA", 6), strings.Repeat("abAB", 3),
		"abcdefFEDCBA", strings.Repeat("a", 12), strings.Repeat("a", 13), strings.Repeat("x", 100000)}
	lists := [][][2]int{nil, {}, joins(0, 1), joins(0, 3, 1, 2), joins(0, 0), joins(-1, -1), joins(math.MinInt, math.MaxInt),
		joins(math.MaxInt, math.MinInt), joins(0, 1, 2, 3, 4, 5, 6, 7, 8, 9, 10, 11, 12, 13), make([][2]int, 1000)}
	numbers := []int{math.MinInt, -1, 0, 1, 3, 4, 11, 12, 13, math.MaxInt}
	for _, rim := range rims {
		for i, l := range lists {
			other, by := rims[i%len(rims)], numbers[i%len(numbers)]
			a, b := allAnswers(rim, l, by, other), allAnswers(strings.Clone(rim), slices.Clone(l), by, strings.Clone(other))
			if !a.same(b) {
				t.Errorf("%q, %v, %d, %q: %v, then %v", rim, l, by, other, a, b)
			}
		}
		for _, by := range numbers {
			for _, other := range rims {
				if a, b := allAnswers(rim, nil, by, other), allAnswers(rim, [][2]int{}, by, other); !a.same(b) {
					t.Errorf("%q, %d, %q: %v with nil, %v with a list without elements", rim, by, other, a, b)
				}
			}
		}
	}
}
