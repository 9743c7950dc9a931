package normal_test

import (
	"math"
	"math/rand"
	"slices"
	"testing"

	"kalends/api"
	"kalends/civil"
	"kalends/expand"
	"kalends/normal"
	"kalends/rule"
)

var allFreqs = []rule.Freq{rule.Daily, rule.Weekly, rule.Monthly, rule.Yearly}

// numbers: those from first to last.
func numbers(first, last int) (list []int) {
	for n := first; n <= last; n++ {
		list = append(list, n)
	}
	return list
}

// without: a new list without the element.
func without[E comparable](list []E, x E) []E {
	return slices.DeleteFunc(slices.Clone(list), func(y E) bool { return y == x })
}

// nths: weekdays, of an N and a day each.
func nths(pairs ...int) (list []rule.Nth) {
	for pair := range slices.Chunk(pairs, 2) {
		list = append(list, rule.Nth{N: pair[0], Day: pair[1]})
	}
	return list
}

// week: all seven weekdays with that N.
func week(n int) []rule.Nth {
	return nths(n, 0, n, 1, n, 2, n, 3, n, 4, n, 5, n, 6)
}

// copied: the rule with lists of its own.
func copied(r rule.Rule) rule.Rule {
	r.Months, r.Days = slices.Clone(r.Months), slices.Clone(r.Days)
	r.Weekdays, r.Pos = slices.Clone(r.Weekdays), slices.Clone(r.Pos)
	return r
}

func valid(r rule.Rule) bool {
	return r.Check() == api.OK
}

func tidies(t *testing.T, r, want rule.Rule) {
	t.Helper()
	before := copied(r)
	if got := normal.Tidy(r); !rule.Same(got, want) {
		t.Errorf("Tidy(%+v) = %+v, want %+v", before, got, want)
	}
	if !rule.Same(r, before) {
		t.Errorf("Tidy modified %+v to %+v", before, r)
	}
}

// normalizes: Of of the rule, of its lists turned, of its lists doubled; and Of of the result.
func normalizes(t *testing.T, r, want rule.Rule) {
	t.Helper()
	if !valid(normal.Tidy(r)) || !valid(want) {
		t.Errorf("%+v, %+v: the test's own fault: not valid", r, want)
	}
	for _, given := range []rule.Rule{r, turned(r), doubled(r), doubled(turned(r)), want} {
		before := copied(given)
		if got := normal.Of(given); !rule.Same(got, want) {
			t.Errorf("Of(%+v) = %+v, want %+v", before, got, want)
		}
		if !rule.Same(given, before) {
			t.Errorf("Of modified %+v to %+v", before, given)
		}
	}
}

// turned: the rule with its lists backwards.
func turned(r rule.Rule) rule.Rule {
	r = copied(r)
	slices.Reverse(r.Months)
	slices.Reverse(r.Days)
	slices.Reverse(r.Weekdays)
	slices.Reverse(r.Pos)
	return r
}

// doubled: the rule with its lists given twice, one after the other.
func doubled(r rule.Rule) rule.Rule {
	r.Months, r.Days = slices.Repeat(r.Months, 2), slices.Repeat(r.Days, 2)
	r.Weekdays, r.Pos = slices.Repeat(r.Weekdays, 2), slices.Repeat(r.Pos, 2)
	return r
}

func TestTidyNumbers(t *testing.T) { // P4.1
	for _, k := range []struct{ list, want []int }{
		{nil, nil}, {[]int{}, nil}, {[]int{7}, []int{7}}, {[]int{7, 7}, []int{7}}, {[]int{7, 7, 7}, []int{7}},
		{[]int{1, 2, 3}, []int{1, 2, 3}}, {[]int{3, 2, 1}, []int{1, 2, 3}}, {[]int{2, 3, 1}, []int{1, 2, 3}},
		{[]int{3, 1, 3}, []int{1, 3}}, {[]int{1, 3, 1}, []int{1, 3}}, {[]int{1, 1, 3, 3}, []int{1, 3}}, {[]int{2, 1, 2, 1, 2}, []int{1, 2}},
		{[]int{3, -1, 3}, []int{-1, 3}}, {[]int{1, -1}, []int{-1, 1}}, {[]int{-1, -2, 2, 1}, []int{-2, -1, 1, 2}}, {[]int{-1, -31, 31, -1, 1, 31}, []int{-31, -1, 1, 31}},
		{[]int{10, 9, 2, 100, -10, -9}, []int{-10, -9, 2, 9, 10, 100}}, {[]int{0, 1, 0, -1, 0}, []int{-1, 0, 1}},
		{[]int{math.MaxInt, math.MinInt, 0, math.MaxInt, math.MinInt}, []int{math.MinInt, 0, math.MaxInt}},
		{[]int{math.MinInt, 1, math.MaxInt, -1}, []int{math.MinInt, -1, 1, math.MaxInt}},
	} {
		tidies(t, rule.Rule{Months: k.list}, rule.Rule{Months: k.want})
		tidies(t, rule.Rule{Days: k.list}, rule.Rule{Days: k.want})
		tidies(t, rule.Rule{Pos: k.list}, rule.Rule{Pos: k.want})
		tidies(t, rule.Rule{Months: k.list, Days: k.list, Pos: k.list}, rule.Rule{Months: k.want, Days: k.want, Pos: k.want})
	}
}

func TestTidyWeekdays(t *testing.T) { // P4.1
	for _, k := range []struct{ list, want []rule.Nth }{
		{nil, nil}, {[]rule.Nth{}, nil}, {nths(0, 3), nths(0, 3)}, {nths(0, 3, 0, 3), nths(0, 3)}, {nths(2, 3, 2, 3, 2, 3), nths(2, 3)},
		{nths(0, 6, 0, 0), nths(0, 0, 0, 6)}, {nths(0, 2, 0, 1, 0, 2), nths(0, 1, 0, 2)},
		// By N ahead of the day.
		{nths(1, 0, 0, 6), nths(0, 6, 1, 0)}, {nths(0, 0, -1, 6), nths(-1, 6, 0, 0)}, {nths(2, 1, 1, 2), nths(1, 2, 2, 1)},
		{nths(1, 4, -1, 4, 0, 4, 5, 4, -5, 4), nths(-5, 4, -1, 4, 0, 4, 1, 4, 5, 4)},
		// Tidy keeps what Of removes.
		{nths(1, 2, 0, 2, 1, 1), nths(0, 2, 1, 1, 1, 2)},
		{slices.Concat(week(1), week(0), week(-1)), slices.Concat(week(-1), week(0), week(1))},
		{nths(0, math.MaxInt, math.MaxInt, 0, math.MinInt, 7, 0, math.MinInt), nths(math.MinInt, 7, 0, math.MinInt, 0, math.MaxInt, math.MaxInt, 0)},
	} {
		tidies(t, rule.Rule{Weekdays: k.list}, rule.Rule{Weekdays: k.want})
	}
}

func TestTidyKeepsTheRest(t *testing.T) { // P4.1: whatever the other fields are, and no list but sorted
	months, days, ws, pos := numbers(1, 12), numbers(-31, 31), slices.Concat(week(0), week(1)), numbers(-3, 3)
	for _, n := range []int{math.MinInt, -1, 0, 1, 2, 3, 4, 999, math.MaxInt} {
		r := rule.Rule{Freq: rule.Freq(n), Interval: 5 - n, Count: n / 2, Until: civil.Day(n ^ 9), Months: months, Days: days, Weekdays: ws, Pos: pos}
		for _, given := range []rule.Rule{r, turned(r), doubled(r), doubled(turned(r))} {
			tidies(t, given, r)
		}
		r.Months, r.Days, r.Weekdays, r.Pos = nil, nil, nil, nil
		tidies(t, r, r)
	}
}

// risesWith: is the list in order, each element once, of just the elements of the other?
func risesWith[E comparable](list, of []E, before func(a, b E) bool) bool {
	for i := 1; i < len(list); i++ {
		if !before(list[i-1], list[i]) {
			return false
		}
	}
	in := func(l []E) func(E) bool { return func(x E) bool { return !slices.Contains(l, x) } }
	return !slices.ContainsFunc(list, in(of)) && !slices.ContainsFunc(of, in(list))
}

func numberBefore(a, b int) bool { return a < b }

func nthBefore(a, b rule.Nth) bool { return a.N < b.N || a.N == b.N && a.Day < b.Day }

func TestTidyAnyLists(t *testing.T) { // P4.1
	x := rand.New(rand.NewSource(1))
	for range 5000 {
		r := rule.Rule{Freq: allFreqs[x.Intn(4)], Interval: x.Intn(9), Count: x.Intn(9), Until: civil.Day(x.Intn(9))}
		r.Months, r.Days, r.Pos = randomList(x, 30, -12, 12), randomList(x, 60, -31, 31), randomList(x, 20, -366, 366)
		r.Weekdays = randomWeekdays(x, 40, x.Intn(6))
		before := copied(r)
		got := normal.Tidy(r)
		if !rule.Same(r, before) {
			t.Fatalf("Tidy modified %+v to %+v", before, r)
		}
		if got.Freq != r.Freq || got.Interval != r.Interval || got.Count != r.Count || got.Until != r.Until ||
			!risesWith(got.Months, r.Months, numberBefore) || !risesWith(got.Days, r.Days, numberBefore) ||
			!risesWith(got.Weekdays, r.Weekdays, nthBefore) || !risesWith(got.Pos, r.Pos, numberBefore) {
			t.Fatalf("Tidy(%+v) = %+v", r, got)
		}
		if !rule.Same(normal.Tidy(got), got) {
			t.Fatalf("Tidy(%+v) is not itself", got)
		}
	}
}

// randomList: up to most-1 numbers, some of them often.
func randomList(x *rand.Rand, most, low, high int) (list []int) {
	for range x.Intn(most) {
		list = append(list, low+x.Intn(high-low+1))
	}
	return list
}

func randomWeekdays(x *rand.Rand, most, n int) (list []rule.Nth) {
	for range x.Intn(most) {
		list = append(list, rule.Nth{N: x.Intn(2*n+1) - n, Day: x.Intn(7)})
	}
	return list
}

func TestOfExamples(t *testing.T) { // P4.2: the chapter's, and the shared tests'
	normalizes(t, rule.Rule{Freq: rule.Daily, Interval: 1, Weekdays: week(0)}, rule.Rule{Freq: rule.Daily, Interval: 1})
	all := append(numbers(2, 12), 1, 12)
	normalizes(t, rule.Rule{Freq: rule.Monthly, Interval: 1, Months: all, Days: []int{3, -1, 3}}, rule.Rule{Freq: rule.Monthly, Interval: 1, Days: []int{-1, 3}})
}

func TestOfTidies(t *testing.T) { // P4.2: what needs no change but Tidy's
	for _, f := range allFreqs {
		r := rule.Rule{Freq: f, Interval: 1}
		normalizes(t, r, r)
		r = rule.Rule{Freq: f, Interval: 999, Count: 9999, Months: []int{2, 11}, Weekdays: nths(0, 1, 0, 3), Pos: []int{-366, -1, 1, 366}}
		normalizes(t, r, r)
		r = rule.Rule{Freq: f, Interval: 3, Until: civil.Last, Months: []int{12}, Weekdays: nths(0, 6)}
		normalizes(t, r, r)
		if f != rule.Weekly {
			r.Days = slices.Concat(numbers(-31, -1), numbers(1, 31))
			normalizes(t, r, r)
		}
	}
	r := rule.Rule{Freq: rule.Monthly, Interval: 1, Weekdays: nths(-5, 3, -1, 4, 0, 2, 1, 0, 1, 1, 5, 6)}
	normalizes(t, r, r)
	r = rule.Rule{Freq: rule.Yearly, Interval: 1, Weekdays: nths(-53, 3, 20, 0, 53, 6), Pos: []int{2}}
	normalizes(t, r, r)
}

// A list may be longer than MaxList as long as its different elements are not.
func TestOfLongLists(t *testing.T) { // P4.2
	want := rule.Rule{Freq: rule.Yearly, Interval: 1, Months: []int{3}, Days: []int{-1}, Weekdays: slices.Concat(week(-9), week(-8), week(-7), week(-6), week(-5), week(-4), week(-3), week(-2), week(-1))}
	want.Weekdays = append(want.Weekdays, rule.Nth{N: 53, Day: 6})
	want.Pos = numbers(100, 163)
	if len(want.Weekdays) != api.MaxList || len(want.Pos) != api.MaxList {
		t.Fatal("not the longest lists")
	}
	r := rule.Rule{Freq: rule.Yearly, Interval: 1}
	r.Months, r.Days = slices.Repeat(want.Months, 1000), slices.Repeat(want.Days, 1000)
	r.Weekdays, r.Pos = slices.Repeat(want.Weekdays, 15), slices.Repeat(want.Pos, 15)
	normalizes(t, r, want)
}

func TestOfRemovesNths(t *testing.T) { // P4.2: the first change alone
	for _, f := range []rule.Freq{rule.Monthly, rule.Yearly} {
		for _, k := range []struct{ list, want []rule.Nth }{
			{nths(1, 2, 0, 2, 1, 1), nths(0, 2, 1, 1)},
			{nths(0, 2, 1, 2), nths(0, 2)}, {nths(-1, 2, 0, 2), nths(0, 2)}, {nths(-5, 2, -1, 2, 0, 2, 1, 2, 5, 2), nths(0, 2)},
			{nths(0, 0, 1, 0), nths(0, 0)}, {nths(0, 6, -1, 6), nths(0, 6)},
			// Another weekday's stay, also those with the same N and one whose day is the N of another.
			{nths(0, 2, 1, 1, 1, 3, 2, 0), nths(0, 2, 1, 1, 1, 3, 2, 0)}, {nths(0, 2, 1, 1, 1, 2, 1, 3), nths(0, 2, 1, 1, 1, 3)},
			{nths(-1, 0, -1, 6, 0, 6, 1, 0, 1, 6), nths(-1, 0, 0, 6, 1, 0)},
			// Without N 0 all stay.
			{nths(-1, 4, 1, 4), nths(-1, 4, 1, 4)}, {nths(-2, 3, -1, 3, 1, 3, 2, 3, 3, 3), nths(-2, 3, -1, 3, 1, 3, 2, 3, 3, 3)},
			// Of several weekdays at once.
			{slices.Concat(week(-1), week(0), week(1)), week(0)}, {slices.Concat(week(-1), nths(0, 3), week(1)), slices.Concat(without(week(-1), rule.Nth{N: -1, Day: 3}), nths(0, 3), without(week(1), rule.Nth{N: 1, Day: 3}))},
			{slices.Concat(week(0), week(5)), week(0)}, {week(1), week(1)}, {week(-1), week(-1)},
		} {
			for _, months := range [][]int{nil, {4}, numbers(1, 11)} {
				for _, days := range [][]int{nil, {-1, 8}} {
					for _, pos := range [][]int{nil, {-1, 1}} {
						r := rule.Rule{Freq: f, Interval: 2, Count: 7, Months: months, Days: days, Weekdays: k.list, Pos: pos}
						want := r
						want.Weekdays = k.want
						normalizes(t, r, want)
					}
				}
			}
		}
	}
}

func TestOfRemovesMonths(t *testing.T) { // P4.2: the second change alone
	for _, f := range allFreqs {
		for _, k := range []struct {
			days     []int
			weekdays []rule.Nth
			pos      []int
			goes     bool // unless it is by years
		}{
			{nil, nil, nil, true}, {nil, nil, []int{1}, false}, {nil, nil, []int{-1, 2}, false},
			{nil, nths(0, 2), nil, true}, {nil, nths(0, 2), []int{1}, true}, {nil, nths(0, 0, 0, 6), []int{-1, 2}, true},
			{[]int{1}, nil, nil, true}, {[]int{-1, 1}, nil, []int{1}, true}, {[]int{-1}, nths(0, 2), nil, true}, {[]int{-1}, nths(0, 2), []int{1}, true},
		} {
			if f == rule.Weekly && k.days != nil {
				continue
			}
			r := rule.Rule{Freq: f, Interval: 4, Until: 739936, Months: numbers(1, 12), Days: k.days, Weekdays: k.weekdays, Pos: k.pos}
			want := r
			if k.goes && f != rule.Yearly {
				want.Months = nil
			}
			normalizes(t, r, want)
			for m := 1; m <= 12; m++ {
				r.Months = without(numbers(1, 12), m)
				normalizes(t, r, r)
				r.Months = []int{m}
				normalizes(t, r, r)
			}
		}
	}
	for _, w := range []rule.Nth{{N: -1, Day: 4}, {N: 5, Day: 0}} {
		r := rule.Rule{Freq: rule.Monthly, Interval: 1, Months: numbers(1, 12), Weekdays: []rule.Nth{w}, Pos: []int{1}}
		want := r
		want.Months = nil
		normalizes(t, r, want)
		r.Freq = rule.Yearly
		normalizes(t, r, r)
	}
}

// Twelve months in a list of twelve, but one of them twice: they are eleven.
func TestOfCountsMonthsOnce(t *testing.T) { // P4.2
	want := rule.Rule{Freq: rule.Monthly, Interval: 1, Months: numbers(1, 11)}
	for m := 1; m <= 11; m++ {
		r := want
		r.Months = append(numbers(1, 11), m)
		normalizes(t, r, want)
	}
}

func TestOfRemovesWeekdays(t *testing.T) { // P4.2: the third change alone
	for _, f := range allFreqs {
		for _, k := range []struct {
			months, days, pos []int
			goes              bool // if it is by days
		}{
			{nil, nil, nil, true}, {nil, nil, []int{1}, false}, {nil, nil, []int{-1, 2}, false},
			{[]int{2}, nil, nil, true}, {[]int{2}, nil, []int{1}, true}, {numbers(2, 12), nil, []int{-1, 2}, true},
			{nil, []int{1}, nil, true}, {nil, []int{-1, 1}, []int{1}, true}, {[]int{2}, []int{-1}, nil, true}, {[]int{2}, []int{-1}, []int{1}, true},
		} {
			if f == rule.Weekly && k.days != nil {
				continue
			}
			r := rule.Rule{Freq: f, Interval: 1, Count: 1, Months: k.months, Days: k.days, Weekdays: week(0), Pos: k.pos}
			want := r
			if k.goes && f == rule.Daily {
				want.Weekdays = nil
			}
			normalizes(t, r, want)
			for _, w := range week(0) {
				r.Weekdays = without(week(0), w)
				normalizes(t, r, r)
				r.Weekdays = []rule.Nth{w}
				normalizes(t, r, r)
			}
		}
	}
}

// Seven weekdays in a list of seven, but one of them twice: they are six.
func TestOfCountsWeekdaysOnce(t *testing.T) { // P4.2
	want := rule.Rule{Freq: rule.Daily, Interval: 1, Weekdays: week(0)[:6]}
	for _, w := range want.Weekdays {
		r := want
		r.Weekdays = append(week(0)[:6], w)
		normalizes(t, r, want)
	}
}

func TestOfSeveralChanges(t *testing.T) { // P4.2: each sees what the ones before it have left
	all, one := numbers(1, 12), []int{1}
	for _, k := range []struct{ r, want rule.Rule }{
		// Without positions, or with days, both lists go.
		{rule.Rule{Months: all, Weekdays: week(0)}, rule.Rule{}},
		{rule.Rule{Months: all, Days: one, Weekdays: week(0)}, rule.Rule{Days: one}},
		{rule.Rule{Months: all, Days: one, Weekdays: week(0), Pos: one}, rule.Rule{Days: one, Pos: one}},
		// The months go because of the weekdays, which then must stay.
		{rule.Rule{Months: all, Weekdays: week(0), Pos: one}, rule.Rule{Weekdays: week(0), Pos: one}},
		{rule.Rule{Months: all, Weekdays: week(0)[1:], Pos: one}, rule.Rule{Weekdays: week(0)[1:], Pos: one}},
		{rule.Rule{Months: all[1:], Weekdays: week(0), Pos: one}, rule.Rule{Months: all[1:], Pos: one}},
		{rule.Rule{Months: all, Pos: one}, rule.Rule{Months: all, Pos: one}},
		// The months stay by years, and all seven weekdays elsewhere than by days.
		{rule.Rule{Freq: rule.Weekly, Months: all, Weekdays: week(0)}, rule.Rule{Freq: rule.Weekly, Weekdays: week(0)}},
		{rule.Rule{Freq: rule.Monthly, Months: all, Weekdays: week(0), Pos: one}, rule.Rule{Freq: rule.Monthly, Weekdays: week(0), Pos: one}},
		{rule.Rule{Freq: rule.Yearly, Months: all, Weekdays: week(0)}, rule.Rule{Freq: rule.Yearly, Months: all, Weekdays: week(0)}},
		// Nths and months.
		{rule.Rule{Freq: rule.Monthly, Months: all, Weekdays: nths(-1, 3, 0, 3, 1, 2)}, rule.Rule{Freq: rule.Monthly, Weekdays: nths(0, 3, 1, 2)}},
		{rule.Rule{Freq: rule.Monthly, Months: all, Weekdays: nths(-1, 3, 0, 3), Pos: one}, rule.Rule{Freq: rule.Monthly, Weekdays: nths(0, 3), Pos: one}},
		{rule.Rule{Freq: rule.Monthly, Months: all, Weekdays: slices.Concat(week(0), week(2)), Pos: one}, rule.Rule{Freq: rule.Monthly, Weekdays: week(0), Pos: one}},
		{rule.Rule{Freq: rule.Yearly, Months: all, Weekdays: nths(-1, 3, 0, 3, 1, 2)}, rule.Rule{Freq: rule.Yearly, Months: all, Weekdays: nths(0, 3, 1, 2)}},
	} {
		k.r.Interval, k.want.Interval = 1, 1
		normalizes(t, k.r, k.want)
	}
}

func TestNilAndEmptyLists(t *testing.T) { // R4
	for bits := range 16 {
		for _, f := range allFreqs {
			r := rule.Rule{Freq: f, Interval: 1}
			if bits&1 != 0 {
				r.Months = []int{}
			}
			if bits&2 != 0 {
				r.Days = make([]int, 0, 4)
			}
			if bits&4 != 0 {
				r.Weekdays = []rule.Nth{}
			}
			if bits&8 != 0 {
				r.Pos = make([]int, 0, 4)
			}
			want := rule.Rule{Freq: f, Interval: 1}
			tidies(t, r, want)
			normalizes(t, r, want)

			// An empty list is none, where a change asks whether there is one.
			r.Months, want.Months = numbers(1, 12), nil
			if f == rule.Yearly {
				want.Months = r.Months
			}
			normalizes(t, r, want)
			r.Pos, want.Pos, want.Months = []int{1}, []int{1}, r.Months
			normalizes(t, r, want)
		}
		r := rule.Rule{Interval: 1, Weekdays: week(0), Pos: []int{1}}
		if bits&1 != 0 {
			r.Months = []int{}
		}
		if bits&2 != 0 {
			r.Days = []int{}
		}
		want := r
		if bits&4 != 0 {
			r.Pos, want.Pos, want.Weekdays = []int{}, nil, nil
		}
		normalizes(t, r, want)
	}
}

// expected works Of's result out another way: by the sets of what the lists contain.
func expected(r rule.Rule) rule.Rule {
	want := rule.Rule{Freq: r.Freq, Interval: r.Interval, Count: r.Count, Until: r.Until}
	want.Days, want.Pos = chosen(r.Days, -31, 31), chosen(r.Pos, -366, 366)
	every := 0
	for n := -53; n <= 53; n++ {
		for day := range 7 {
			if !slices.Contains(r.Weekdays, rule.Nth{N: n, Day: day}) {
				continue
			}
			if n == 0 {
				every++
			}
			if n == 0 || !slices.Contains(r.Weekdays, rule.Nth{Day: day}) {
				want.Weekdays = append(want.Weekdays, rule.Nth{N: n, Day: day})
			}
		}
	}
	want.Months = chosen(r.Months, 1, 12)
	monthsStay := len(want.Months) < 12 || r.Freq == rule.Yearly || len(r.Pos) > 0 && len(r.Days) == 0 && len(r.Weekdays) == 0
	if !monthsStay {
		want.Months = nil
	}
	weekdaysStay := every < 7 || r.Freq != rule.Daily || len(r.Pos) > 0 && len(r.Days) == 0 && len(want.Months) == 0
	if !weekdaysStay {
		want.Weekdays = nil
	}
	return want
}

// chosen: of the numbers from low to high those in the list.
func chosen(list []int, low, high int) []int {
	return slices.DeleteFunc(numbers(low, high), func(n int) bool { return !slices.Contains(list, n) })
}

// holds: P4.2 and P4.3 of a rule whose Tidy is valid.
func holds(t *testing.T, r rule.Rule) {
	t.Helper()
	before := copied(r)
	got := normal.Of(r)
	if want := expected(r); !rule.Same(got, want) {
		t.Errorf("Of(%+v) = %+v, want %+v", before, got, want)
	}
	if !rule.Same(r, before) {
		t.Errorf("Of modified %+v to %+v", before, r)
	}
	if e := got.Check(); e != api.OK {
		t.Errorf("Of(%+v) = %+v is not valid: %d", before, got, e)
	}
	if again := normal.Of(got); !rule.Same(again, got) {
		t.Errorf("Of(%+v) = %+v, want itself", got, again)
	}
}

// eachRule calls f with all rules of some lists for each period whose Tidy is valid.
func eachRule(f func(r rule.Rule)) {
	monthLists := [][]int{nil, {2}, {12, 1, 1}, numbers(1, 11), numbers(2, 12), {6, 5, 4, 3, 2, 1, 12, 11, 10, 9, 8, 7}, append(numbers(1, 12), numbers(1, 12)...)}
	dayLists := [][]int{nil, {3, -1, 3}, {31, 1}}
	posLists := [][]int{nil, {1}, {3, -2, 1, 3}}
	weekdayLists := [][]rule.Nth{
		nil, nths(0, 2), nths(0, 4, 0, 2, 0, 4), week(0)[1:], week(0)[:6], week(0), slices.Concat(week(0)[3:], week(0)[:5]),
		nths(1, 2, 0, 2, 1, 1), nths(-1, 4, 1, 4), slices.Concat(week(1), nths(0, 6), week(-1)), slices.Concat(week(5), week(0), week(-5)), week(1), nths(20, 0, -53, 3, 0, 3),
	}
	for _, freq := range allFreqs {
		for _, months := range monthLists {
			for _, days := range dayLists {
				for _, ws := range weekdayLists {
					for _, pos := range posLists {
						r := rule.Rule{Freq: freq, Interval: 1, Months: months, Days: days, Weekdays: ws, Pos: pos}
						if valid(normal.Tidy(r)) {
							f(r)
						}
					}
				}
			}
		}
	}
}

func TestOfCombinedLists(t *testing.T) { // P4.2, P4.3
	count := 0
	eachRule(func(r rule.Rule) {
		count++
		holds(t, r)
		holds(t, turned(r))
		r.Interval, r.Count = 7, 5
		holds(t, r)
		r.Count, r.Until = 0, 739936
		holds(t, doubled(r))
	})
	if count < 1000 {
		t.Errorf("only %d rules", count)
	}
}

func TestOfAnyRules(t *testing.T) { // P4.2, P4.3
	x := rand.New(rand.NewSource(2))
	count := 0
	for range 40000 {
		r := rule.Rule{Freq: allFreqs[x.Intn(4)], Interval: 1 + x.Intn(999), Count: x.Intn(9999)}
		// Some lists are long enough to have all months, or all weekdays.
		r.Months = randomList(x, []int{1, 4, 80}[x.Intn(3)], 1, 12)
		r.Days = without(randomList(x, []int{1, 4}[x.Intn(2)], -31, 31), 0)
		r.Weekdays = randomWeekdays(x, []int{1, 4, 60}[x.Intn(3)], []int{0, 0, 5, 53}[r.Freq]*x.Intn(2))
		r.Pos = without(randomList(x, []int{1, 4}[x.Intn(2)], -366, 366), 0)
		if valid(normal.Tidy(r)) {
			count++
			holds(t, r)
		}
	}
	if count < 10000 {
		t.Errorf("only %d rules", count)
	}
}

// periods: those of the years 2023 to 2024, a common one and a leap one, as far as they lie in them.
func periods(f rule.Freq) [][]civil.Day {
	first, _ := civil.Of(2023, 1, 1)
	last, _ := civil.Of(2024, 12, 31)
	var list [][]civil.Day
	for d := first; d <= last; d++ {
		if d == first || begins(f, d) {
			list = append(list, nil)
		}
		list[len(list)-1] = append(list[len(list)-1], d)
	}
	return list
}

// begins: is it the first day of a period?
func begins(f rule.Freq, day civil.Day) bool {
	_, m, d := day.Date()
	switch f {
	case rule.Weekly:
		return day.Weekday() == 0
	case rule.Monthly:
		return d == 1
	case rule.Yearly:
		return d == 1 && m == 1
	}
	return true
}

// lets: do the lists permit the day, as chapter 5 has it?
func lets(r rule.Rule, start, day civil.Day) bool {
	y, m, d := day.Date()
	_, startMonth, startDay := start.Date()
	if len(r.Months) > 0 && !slices.Contains(r.Months, m) {
		return false
	}
	if len(r.Days) > 0 && !slices.Contains(r.Days, d) && !slices.Contains(r.Days, d-civil.Long(y, m)-1) {
		return false
	}
	if len(r.Weekdays) > 0 && !letsWeekday(r, day) {
		return false
	}
	if len(r.Days) > 0 || len(r.Weekdays) > 0 {
		return true
	}
	switch r.Freq {
	case rule.Weekly:
		return day.Weekday() == start.Weekday()
	case rule.Monthly:
		return d == startDay
	case rule.Yearly:
		return d == startDay && (len(r.Months) > 0 || m == startMonth)
	}
	return true
}

func letsWeekday(r rule.Rule, day civil.Day) bool {
	y, m, d := day.Date()
	before, length := d-1, civil.Long(y, m)
	if r.Freq == rule.Yearly && len(r.Months) == 0 {
		first, _ := civil.Of(y, 1, 1)
		last, _ := civil.Of(y, 12, 31)
		before, length = int(day-first), int(last-first)+1
	}
	nth, fromEnd := before/7+1, -((length-1-before)/7 + 1)
	return slices.ContainsFunc(r.Weekdays, func(w rule.Nth) bool {
		return w.Day == day.Weekday() && (w.N == 0 || w.N == nth || w.N == fromEnd)
	})
}

// daysIn: the rule's days of a period.
func daysIn(r rule.Rule, start civil.Day, period []civil.Day) (list []civil.Day) {
	let := slices.DeleteFunc(slices.Clone(period), func(d civil.Day) bool { return !lets(r, start, d) })
	for i, d := range let {
		if len(r.Pos) == 0 || slices.Contains(r.Pos, i+1) || slices.Contains(r.Pos, i-len(let)) {
			list = append(list, d)
		}
	}
	return list
}

// With the same periods, Count and Until, rules have the same days if they have the same in each period.
func TestOfKeepsTheDays(t *testing.T) { // P4.3, by chapter 5's words
	starts := []civil.Day{739000, 739936, 738914}
	lists := map[rule.Freq][][]civil.Day{}
	for _, f := range allFreqs {
		lists[f] = periods(f)
	}
	changed := 0
	eachRule(func(r rule.Rule) {
		got := normal.Of(r)
		if rule.Same(got, normal.Tidy(r)) {
			return
		}
		changed++
		if got.Freq != r.Freq || got.Interval != r.Interval || got.Count != r.Count || got.Until != r.Until {
			t.Fatalf("Of(%+v) = %+v", r, got)
		}
		for _, start := range starts {
			for _, period := range lists[r.Freq] {
				if a, b := daysIn(r, start, period), daysIn(got, start, period); !slices.Equal(a, b) {
					t.Fatalf("Of(%+v) = %+v: days %v instead of %v", r, got, b, a)
				}
			}
		}
	})
	if changed < 100 {
		t.Errorf("only %d rules that Of changes", changed)
	}
}

// sameDays: has the rule the same first days as its tidy form and its normal form have?
func sameDays(t *testing.T, r rule.Rule, start civil.Day) {
	t.Helper()
	days := func(r rule.Rule) (list []civil.Day) {
		for d := range expand.Days(r, start) {
			if len(list) == 60 {
				break
			}
			list = append(list, d)
		}
		return list
	}
	want := days(normal.Tidy(r))
	if got := days(normal.Of(r)); !slices.Equal(got, want) {
		t.Fatalf("%+v from %d: days %v of the normal form, want %v", r, start, got, want)
	}
	if got := days(r); !slices.Equal(got, want) {
		t.Fatalf("%+v from %d: days %v, want those of the tidy form, %v", r, start, got, want)
	}
}

func TestNormalFormHasTheSameDays(t *testing.T) { // P4.3, by layer 5
	eachRule(func(r rule.Rule) {
		for _, start := range []civil.Day{1, 739000, 739936, civil.Last - 700} {
			r.Until = min(start+900, civil.Last)
			sameDays(t, r, start)
			r.Interval = 1 + int(start%3)
			sameDays(t, r, start)
		}
		// Without end, and with a Count, there may be all days to look through: these are few.
		r.Interval, r.Until = 2, 0
		sameDays(t, r, civil.Last-800)
		r.Count = 3
		sameDays(t, turned(r), civil.Last-801)
	})
}

// Nothing more is promised of these than that there is an end and no panic, that the argument stays, and P4.1.
func TestRulesThatAreNotValid(t *testing.T) { // P1, R7, P4.1
	odd := []int{math.MinInt, math.MinInt + 1, -54, -1, 0, 1, 6, 7, 12, 13, 1000, math.MaxInt}
	x := rand.New(rand.NewSource(3))
	element := func() int {
		if x.Intn(2) == 0 {
			return odd[x.Intn(len(odd))]
		}
		return x.Intn(30) - 15
	}
	list := func(size int) (l []int) {
		for range size {
			l = append(l, element())
		}
		return l
	}
	for _, size := range []int{0, 1, 2, 7, 12, 13, 65, 1000} {
		for range 200 {
			r := rule.Rule{Freq: rule.Freq(element()), Interval: element(), Count: element(), Until: civil.Day(element())}
			if x.Intn(2) == 0 {
				r.Freq = allFreqs[x.Intn(4)]
			}
			r.Months, r.Days, r.Pos = list(size), list(size), list(x.Intn(2)*size)
			for range size {
				r.Weekdays = append(r.Weekdays, rule.Nth{N: element(), Day: element()})
			}
			before := copied(r)
			tidy, got := normal.Tidy(r), normal.Of(r)
			if !rule.Same(r, before) {
				t.Fatalf("modified %+v to %+v", before, r)
			}
			if !risesWith(tidy.Months, r.Months, numberBefore) || !risesWith(tidy.Days, r.Days, numberBefore) ||
				!risesWith(tidy.Weekdays, r.Weekdays, nthBefore) || !risesWith(tidy.Pos, r.Pos, numberBefore) {
				t.Fatalf("Tidy(%+v) = %+v", r, tidy)
			}
			if !rule.Same(got, normal.Of(r)) {
				t.Fatalf("Of(%+v) differs from call to call", r)
			}
		}
	}
}

// Twelve numbers that are not the months, and seven that are not the weekdays, do not go, so that Check still finds their fault.
func TestFaultsStay(t *testing.T) {
	for _, r := range []rule.Rule{
		{Interval: 1, Months: numbers(0, 11)}, {Interval: 1, Months: numbers(2, 13)}, {Interval: 1, Months: numbers(0, 12)}, {Interval: 1, Months: append(numbers(1, 12), 99)},
		{Interval: 1, Weekdays: week(0)[1:]}, {Interval: 1, Weekdays: week(1)}, {Interval: 1, Weekdays: week(0)},
	} {
		if len(r.Weekdays) > 0 && r.Weekdays[0].N == 0 {
			r.Weekdays = append(r.Weekdays, rule.Nth{Day: 7})
		}
		if got := normal.Of(r); !rule.Same(got, r) || valid(got) {
			t.Errorf("Of(%+v) = %+v", r, got)
		}
	}
}

// spare: the list, with marked spare capacity behind it.
func spare[E any](list []E, mark E) []E {
	return slices.Concat(list, slices.Repeat([]E{mark}, 9))[:len(list)]
}

func TestNothingModifiedOrShared(t *testing.T) { // R5
	mark := rule.Nth{N: 77, Day: 77}
	for _, f := range []func(rule.Rule) rule.Rule{normal.Tidy, normal.Of} {
		eachRule(func(r rule.Rule) {
			r.Months, r.Days, r.Pos = spare(r.Months, 77), spare(r.Days, 77), spare(r.Pos, 77)
			r.Weekdays = spare(r.Weekdays, mark)
			whole := func() rule.Rule {
				w := r
				w.Months, w.Days, w.Pos = r.Months[:cap(r.Months)], r.Days[:cap(r.Days)], r.Pos[:cap(r.Pos)]
				w.Weekdays = r.Weekdays[:cap(r.Weekdays)]
				return copied(w)
			}
			before := whole()
			got := f(r)
			if !rule.Same(whole(), before) {
				t.Fatalf("%+v: the argument or what is behind it was modified", r)
			}
			want := copied(got)
			overwrite(got)
			if !rule.Same(whole(), before) {
				t.Fatalf("%+v: the result shares memory with the argument", r)
			}
			if !rule.Same(f(r), want) {
				t.Fatalf("%+v: the result was kept", r)
			}
		})
	}
}

// overwrite: all memory of a rule's lists, as far as they reach.
func overwrite(r rule.Rule) {
	for _, list := range [][]int{r.Months, r.Days, r.Pos} {
		whole := list[:cap(list)]
		for i := range whole {
			whole[i] = -99
		}
	}
	whole := r.Weekdays[:cap(r.Weekdays)]
	for i := range whole {
		whole[i] = rule.Nth{N: -99, Day: -99}
	}
}

// All lists of one argument may be one list; those of the result are not.
func TestListsOfOneResult(t *testing.T) { // R5
	for _, f := range []func(rule.Rule) rule.Rule{normal.Tidy, normal.Of} {
		same := []int{3, 1, 2, 3}
		got := f(rule.Rule{Freq: rule.Monthly, Interval: 1, Months: same, Days: same, Pos: same})
		got.Months[0] = 50
		_ = append(got.Months, 60)
		got.Pos[2] = 70
		if !slices.Equal(same, []int{3, 1, 2, 3}) || !slices.Equal(got.Days, []int{1, 2, 3}) || !slices.Equal(got.Months, []int{50, 2, 3}) || !slices.Equal(got.Pos, []int{1, 2, 70}) {
			t.Errorf("lists share memory: %v, %+v", same, got)
		}
	}
}
