package rule_test

import (
	"fmt"
	"math"
	"slices"
	"testing"

	"kalends/api"
	"kalends/civil"
	"kalends/rule"
)

var allFreqs = []rule.Freq{rule.Daily, rule.Weekly, rule.Monthly, rule.Yearly}

// plain is the rule of a period with nothing more.
func plain(f rule.Freq) rule.Rule {
	return rule.Rule{Freq: f, Interval: 1}
}

func check(t *testing.T, r rule.Rule, want api.Errno) {
	t.Helper()
	if got := r.Check(); got != want {
		t.Errorf("Check of %+v = %d, want %d", r, got, want)
	}
}

// numbersFrom: count numbers, each one greater than the one before.
func numbersFrom(first, count int) []int {
	list := make([]int, count)
	for i := range list {
		list[i] = first + i
	}
	return list
}

// nthsFrom: count weekdays in order, from the Monday with that N.
func nthsFrom(n, count int) []rule.Nth {
	list := make([]rule.Nth, count)
	for i := range list {
		list[i] = rule.Nth{N: n + i/7, Day: i % 7}
	}
	return list
}

func TestPeriods(t *testing.T) {
	if rule.Daily != 0 || rule.Weekly != 1 || rule.Monthly != 2 || rule.Yearly != 3 || rule.Freqs != 4 {
		t.Error("the periods' numbers")
	}
}

func TestOrdinaryRules(t *testing.T) { // P2.1
	for _, r := range []rule.Rule{
		plain(rule.Daily), plain(rule.Weekly), plain(rule.Monthly), plain(rule.Yearly),
		{Freq: rule.Weekly, Interval: 2, Until: 740162, Weekdays: []rule.Nth{{Day: 1}}},
		{Freq: rule.Weekly, Interval: 1, Count: 10, Weekdays: []rule.Nth{{Day: 0}, {Day: 2}, {Day: 4}}},
		{Freq: rule.Weekly, Interval: 1, Months: []int{6, 7}, Weekdays: []rule.Nth{{Day: 5}}, Pos: []int{1}},
		{Freq: rule.Monthly, Interval: 1, Weekdays: []rule.Nth{{N: -1, Day: 4}}},
		{Freq: rule.Monthly, Interval: 3, Days: []int{-1, 1, 15}},
		{Freq: rule.Monthly, Interval: 1, Weekdays: nthsFrom(0, 5), Pos: []int{-1}},
		{Freq: rule.Yearly, Interval: 4, Months: []int{11}, Days: []int{2, 3, 4, 5, 6, 7, 8}, Weekdays: []rule.Nth{{Day: 1}}},
		{Freq: rule.Yearly, Interval: 1, Weekdays: []rule.Nth{{N: 20, Day: 0}}},
		{Freq: rule.Daily, Interval: 1, Months: []int{1}, Days: []int{1, 31}, Weekdays: nthsFrom(0, 7), Pos: []int{1}},
	} {
		check(t, r, api.OK)
	}
}

func TestFreqBounds(t *testing.T) { // P2.1
	for _, f := range allFreqs {
		check(t, plain(f), api.OK)
	}
	for _, f := range []rule.Freq{-1, rule.Freqs, rule.Freqs + 1, math.MinInt, math.MaxInt} {
		check(t, plain(f), api.ErrKind)
	}
}

func TestNumberBounds(t *testing.T) { // P2.1
	for _, f := range allFreqs {
		for _, k := range []struct {
			interval, count int
			until           civil.Day
			want            api.Errno
		}{
			{1, 0, 0, api.OK}, {2, 0, 0, api.OK}, {998, 0, 0, api.OK}, {999, 0, 0, api.OK},
			{0, 0, 0, api.ErrRange}, {-1, 0, 0, api.ErrRange}, {1000, 0, 0, api.ErrRange},
			{math.MinInt, 0, 0, api.ErrRange}, {math.MaxInt, 0, 0, api.ErrRange},
			{1, 1, 0, api.OK}, {1, 9998, 0, api.OK}, {1, 9999, 0, api.OK},
			{1, -1, 0, api.ErrRange}, {1, 10000, 0, api.ErrRange},
			{1, math.MinInt, 0, api.ErrRange}, {1, math.MaxInt, 0, api.ErrRange},
			{1, 0, civil.First, api.OK}, {1, 0, 739936, api.OK}, {1, 0, civil.Last, api.OK},
			{1, 0, civil.First - 2, api.ErrRange}, {1, 0, civil.Last + 1, api.ErrRange},
			{1, 0, math.MinInt, api.ErrRange}, {1, 0, math.MaxInt, api.ErrRange},
			{1, 1, civil.First, api.ErrBoth}, {1, 9999, civil.Last, api.ErrBoth}, {999, 5, 739936, api.ErrBoth},
		} {
			check(t, rule.Rule{Freq: f, Interval: k.interval, Count: k.count, Until: k.until}, k.want)
		}
	}
}

func TestMonthBounds(t *testing.T) { // P2.1
	for _, f := range allFreqs {
		r := plain(f)
		for m := -15; m <= 15; m++ {
			r.Months = []int{m}
			check(t, r, rangeError(m >= 1 && m <= 12))
		}
		for _, m := range []int{math.MinInt, math.MaxInt} {
			r.Months = []int{m}
			check(t, r, api.ErrRange)
		}
		r.Months = numbersFrom(1, 12)
		check(t, r, api.OK)
	}
}

func TestDayBounds(t *testing.T) { // P2.1
	for _, f := range allFreqs {
		r := plain(f)
		for d := -35; d <= 35; d++ {
			r.Days = []int{d}
			want := rangeError(d != 0 && d >= -31 && d <= 31)
			if want == api.OK && f == rule.Weekly {
				want = api.ErrKind
			}
			check(t, r, want)
		}
		for _, d := range []int{math.MinInt, math.MaxInt} {
			r.Days = []int{d}
			check(t, r, api.ErrRange)
		}
	}
	r := plain(rule.Monthly)
	r.Days = append(numbersFrom(-31, 31), numbersFrom(1, 31)...)
	check(t, r, api.OK)
}

func TestWeekdayBounds(t *testing.T) { // P2.1
	most := map[rule.Freq]int{rule.Daily: 0, rule.Weekly: 0, rule.Monthly: 5, rule.Yearly: 53}
	for _, f := range allFreqs {
		r := plain(f)
		for n := -60; n <= 60; n++ {
			for day := -8; day <= 8; day++ {
				r.Weekdays = []rule.Nth{{N: n, Day: day}}
				check(t, r, rangeError(n >= -most[f] && n <= most[f] && day >= 0 && day <= 6))
			}
		}
		for _, n := range []int{math.MinInt, math.MinInt + 1, math.MaxInt} {
			r.Weekdays = []rule.Nth{{N: n}}
			check(t, r, api.ErrRange)
			r.Weekdays = []rule.Nth{{Day: n}}
			check(t, r, api.ErrRange)
		}
		r.Weekdays = nthsFrom(0, 7)
		check(t, r, api.OK)
	}
}

func TestPosBounds(t *testing.T) { // P2.1
	for _, f := range allFreqs {
		r := plain(f)
		r.Months = []int{1}
		for p := -370; p <= 370; p++ {
			r.Pos = []int{p}
			check(t, r, rangeError(p != 0 && p >= -366 && p <= 366))
		}
		for _, p := range []int{math.MinInt, math.MaxInt} {
			r.Pos = []int{p}
			check(t, r, api.ErrRange)
		}
	}
}

func rangeError(inRange bool) api.Errno {
	if inRange {
		return api.OK
	}
	return api.ErrRange
}

// Only weekdays and positions can fill a list: there are 12 months, and 62 days of months.
func TestSizes(t *testing.T) { // P2.1
	yearly := plain(rule.Yearly)
	yearly.Months = []int{1}
	for _, k := range []struct {
		count int
		want  api.Errno
	}{{63, api.OK}, {64, api.OK}, {65, api.ErrSize}, {66, api.ErrSize}, {1000, api.ErrSize}} {
		r := yearly
		r.Weekdays = nthsFrom(-53, k.count)
		check(t, r, k.want)
		r = yearly
		r.Pos = numbersFrom(-366, k.count)
		check(t, r, k.want)
		monthly := plain(rule.Monthly)
		monthly.Weekdays = nthsFrom(-5, k.count)
		check(t, monthly, k.want)
	}
	for _, count := range []int{65, 66, 1000} {
		r := plain(rule.Monthly)
		r.Months = numbersFrom(1, count)
		check(t, r, api.ErrSize)
		r = plain(rule.Monthly)
		r.Days = numbersFrom(-31, count)
		check(t, r, api.ErrSize)
	}
	r := plain(rule.Monthly)
	r.Months = numbersFrom(1, 64)
	check(t, r, api.ErrRange)
	r.Months = make([]int, 64)
	check(t, r, api.ErrRange)
	r.Months = slices.Repeat([]int{7}, 64)
	check(t, r, api.ErrOrder)
	r.Months = slices.Repeat([]int{7}, 65)
	check(t, r, api.ErrSize)
	r = plain(rule.Monthly)
	r.Days = slices.Repeat([]int{7}, 64)
	check(t, r, api.ErrOrder)
	r.Days = slices.Repeat([]int{7}, 65)
	check(t, r, api.ErrSize)
}

func TestOrderWithinLists(t *testing.T) { // P2.1
	for _, k := range []struct {
		list []int
		want api.Errno
	}{
		{[]int{1, 2}, api.OK}, {[]int{1, 3, 12}, api.OK}, {[]int{1, 1}, api.ErrOrder}, {[]int{2, 1}, api.ErrOrder},
		{[]int{1, 2, 2}, api.ErrOrder}, {[]int{1, 3, 2}, api.ErrOrder}, {[]int{2, 1, 3}, api.ErrOrder}, {[]int{5, 5, 5}, api.ErrOrder},
		{[]int{1, 2, 3, 1}, api.ErrOrder},
	} {
		r := plain(rule.Monthly)
		r.Months = k.list
		check(t, r, k.want)
		r = plain(rule.Monthly)
		r.Days = k.list
		check(t, r, k.want)
		r.Days = []int{1}
		r.Pos = k.list
		check(t, r, k.want)
	}
	for _, k := range []struct {
		list []int
		want api.Errno
	}{
		{[]int{-2, -1}, api.OK}, {[]int{-1, 1}, api.OK}, {[]int{-31, 31}, api.OK},
		{[]int{-1, -2}, api.ErrOrder}, {[]int{1, -1}, api.ErrOrder}, {[]int{-1, -1}, api.ErrOrder}, {[]int{31, -31}, api.ErrOrder},
	} {
		r := plain(rule.Monthly)
		r.Days = k.list
		check(t, r, k.want)
		r.Days = []int{1}
		r.Pos = k.list
		check(t, r, k.want)
	}
}

func TestOrderWithinWeekdays(t *testing.T) { // P2.1
	for _, k := range []struct {
		list []rule.Nth
		want api.Errno
	}{
		{[]rule.Nth{{0, 0}, {0, 6}}, api.OK}, {[]rule.Nth{{-1, 6}, {0, 0}}, api.OK}, {[]rule.Nth{{-2, 3}, {-1, 3}}, api.OK},
		{[]rule.Nth{{0, 6}, {1, 0}}, api.OK}, {[]rule.Nth{{1, 6}, {2, 0}, {2, 1}}, api.OK},
		{[]rule.Nth{{0, 0}, {0, 0}}, api.ErrOrder}, {[]rule.Nth{{1, 4}, {1, 4}}, api.ErrOrder},
		{[]rule.Nth{{0, 1}, {0, 0}}, api.ErrOrder}, {[]rule.Nth{{1, 0}, {-1, 6}}, api.ErrOrder}, {[]rule.Nth{{2, 0}, {1, 6}}, api.ErrOrder},
		{[]rule.Nth{{-1, 3}, {-2, 3}}, api.ErrOrder}, {[]rule.Nth{{0, 0}, {0, 1}, {0, 1}}, api.ErrOrder},
	} {
		for _, f := range []rule.Freq{rule.Monthly, rule.Yearly} {
			r := plain(f)
			r.Weekdays = k.list
			check(t, r, k.want)
		}
	}
	for _, f := range allFreqs {
		r := plain(f)
		r.Weekdays = []rule.Nth{{0, 3}, {0, 2}}
		check(t, r, api.ErrOrder)
		r.Weekdays = []rule.Nth{{0, 3}, {0, 3}}
		check(t, r, api.ErrOrder)
	}
}

// Elements are looked at from the left, each for its range and then for its order.
func TestFirstFaultOfAList(t *testing.T) { // P2.1, R2
	for _, k := range []struct {
		list []int
		want api.Errno
	}{
		{[]int{13, 1}, api.ErrRange}, {[]int{0, 0}, api.ErrRange}, {[]int{5, 0}, api.ErrRange}, {[]int{5, -1}, api.ErrRange},
		{[]int{2, 1, 13}, api.ErrOrder}, {[]int{2, 2, 0}, api.ErrOrder}, {[]int{1, 13, 1}, api.ErrRange}, {[]int{1, 0, 0}, api.ErrRange},
	} {
		r := plain(rule.Monthly)
		r.Months = k.list
		check(t, r, k.want)
	}
	for _, k := range []struct {
		list []int
		want api.Errno
	}{
		{[]int{1, 0}, api.ErrRange}, {[]int{0, 1}, api.ErrRange}, {[]int{-1, 0, 1}, api.ErrRange}, {[]int{1, -400}, api.ErrRange},
		{[]int{1, -1, 0}, api.ErrOrder}, {[]int{3, 3, 400}, api.ErrOrder}, {[]int{3, 400, 3}, api.ErrRange},
	} {
		r := plain(rule.Monthly)
		r.Days = k.list
		check(t, r, k.want)
		r.Days = []int{1}
		r.Pos = k.list
		check(t, r, k.want)
	}
	for _, k := range []struct {
		list []rule.Nth
		want api.Errno
	}{
		{[]rule.Nth{{1, 0}, {-6, 0}}, api.ErrRange}, {[]rule.Nth{{0, 3}, {0, -1}}, api.ErrRange}, {[]rule.Nth{{6, 0}, {1, 0}}, api.ErrRange},
		{[]rule.Nth{{1, 0}, {1, 0}, {6, 0}}, api.ErrOrder}, {[]rule.Nth{{1, 1}, {1, 0}, {1, 7}}, api.ErrOrder}, {[]rule.Nth{{1, 7}, {1, 7}}, api.ErrRange},
	} {
		r := plain(rule.Monthly)
		r.Weekdays = k.list
		check(t, r, k.want)
	}
}

func TestKindsOfLists(t *testing.T) { // P2.1
	for _, f := range allFreqs {
		pos := plain(f)
		pos.Pos = []int{1}
		check(t, pos, api.ErrKind)
		pos.Months, pos.Days, pos.Weekdays = []int{}, []int{}, []rule.Nth{}
		check(t, pos, api.ErrKind)

		with := pos
		with.Months = []int{1}
		check(t, with, api.OK)
		with = pos
		with.Weekdays = []rule.Nth{{}}
		check(t, with, api.OK)
		with = pos
		with.Days = []int{1}
		want := api.OK
		if f == rule.Weekly {
			want = api.ErrKind
		}
		check(t, with, want)
		with.Months, with.Weekdays = []int{1}, []rule.Nth{{}}
		check(t, with, want)
		with.Pos = nil
		check(t, with, want)
	}
	r := plain(rule.Weekly)
	r.Days = []int{}
	check(t, r, api.OK)
}

// faults stand in the order in which Check finds them.
var faults = []struct {
	name string
	make func(r *rule.Rule)
	want api.Errno
}{
	{"no period", func(r *rule.Rule) { r.Freq = rule.Freqs }, api.ErrKind},
	{"interval", func(r *rule.Rule) { r.Interval = 0 }, api.ErrRange},
	{"count", func(r *rule.Rule) { r.Count = -1 }, api.ErrRange},
	{"until", func(r *rule.Rule) { r.Until = -1 }, api.ErrRange},
	{"both", func(r *rule.Rule) { r.Count, r.Until = 1, 1 }, api.ErrBoth},
	{"long months", func(r *rule.Rule) { r.Months = numbersFrom(1, 65) }, api.ErrSize},
	{"month's range", func(r *rule.Rule) { r.Months = []int{1, 13} }, api.ErrRange},
	{"months' order", func(r *rule.Rule) { r.Months = []int{2, 2} }, api.ErrOrder},
	{"long days", func(r *rule.Rule) { r.Days = numbersFrom(-31, 65) }, api.ErrSize},
	{"day's range", func(r *rule.Rule) { r.Days = []int{1, 32} }, api.ErrRange},
	{"days' order", func(r *rule.Rule) { r.Days = []int{1, -1} }, api.ErrOrder},
	{"long weekdays", func(r *rule.Rule) { r.Weekdays = nthsFrom(0, 65) }, api.ErrSize},
	{"weekday's range", func(r *rule.Rule) { r.Weekdays = []rule.Nth{{0, 1}, {0, 7}} }, api.ErrRange},
	{"weekday's N", func(r *rule.Rule) { r.Weekdays = []rule.Nth{{0, 1}, {54, 0}} }, api.ErrRange},
	{"weekdays' order", func(r *rule.Rule) { r.Weekdays = []rule.Nth{{0, 1}, {0, 0}} }, api.ErrOrder},
	{"long positions", func(r *rule.Rule) { r.Pos = numbersFrom(1, 65) }, api.ErrSize},
	{"position's range", func(r *rule.Rule) { r.Pos = []int{1, 367} }, api.ErrRange},
	{"positions' order", func(r *rule.Rule) { r.Pos = []int{2, 1} }, api.ErrOrder},
	{"days by weeks", func(r *rule.Rule) { r.Freq, r.Days = rule.Weekly, []int{1} }, api.ErrKind},
	{"positions alone", func(r *rule.Rule) { r.Months, r.Days, r.Weekdays, r.Pos = nil, nil, nil, []int{1} }, api.ErrKind},
}

// A field that two faults share is left as the earlier fault has it.
func TestFirstOfSeveralFaults(t *testing.T) { // P2.1, R2
	for _, f := range allFreqs {
		for i, first := range faults {
			r := plain(f)
			first.make(&r)
			if got := r.Check(); got != first.want {
				t.Errorf("%s: %d, want %d", first.name, got, first.want)
			}
			for _, later := range faults[i+1:] {
				r := plain(f)
				later.make(&r)
				first.make(&r)
				if got := r.Check(); got != first.want {
					t.Errorf("%s and %s: %d, want %d", first.name, later.name, got, first.want)
				}
			}
			r = plain(f)
			for _, later := range slices.Backward(faults[i:]) {
				later.make(&r)
			}
			if got := r.Check(); got != first.want {
				t.Errorf("%s and all later: %d, want %d", first.name, got, first.want)
			}
		}
	}
}

func TestLists(t *testing.T) { // P2.1
	for bits := range 16 {
		for _, empty := range [][]int{nil, {}} {
			r := rule.Rule{Months: empty, Days: empty, Pos: empty}
			if empty != nil {
				r.Weekdays = []rule.Nth{}
			}
			if bits&1 != 0 {
				r.Months = []int{0}
			}
			if bits&2 != 0 {
				r.Days = []int{0}
			}
			if bits&4 != 0 {
				r.Weekdays = []rule.Nth{{}}
			}
			if bits&8 != 0 {
				r.Pos = []int{0}
			}
			if got := r.Lists(); got != (bits&7 != 0) {
				t.Errorf("Lists of %+v = %t", r, got)
			}
		}
	}
}

func sign(n int) int {
	return max(-1, min(n, 1))
}

// The list is in order, each element once.
func TestOrder(t *testing.T) { // P2.1
	numbers := []int{math.MinInt, math.MinInt + 1, -54, -53, -5, -1, 0, 1, 5, 6, 7, 53, math.MaxInt - 1, math.MaxInt}
	var list []rule.Nth
	for _, n := range numbers {
		for _, day := range numbers {
			list = append(list, rule.Nth{N: n, Day: day})
		}
	}
	for i, a := range list {
		for j, b := range list {
			if got := rule.Order(a, b); sign(got) != sign(i-j) {
				t.Errorf("Order(%v, %v) = %d", a, b, got)
			}
		}
	}
}

func full() rule.Rule {
	return rule.Rule{
		Freq: rule.Yearly, Interval: 2, Count: 3, Until: 4,
		Months: []int{1, 2}, Days: []int{-3, 4}, Weekdays: []rule.Nth{{-1, 5}, {2, 6}}, Pos: []int{-7, 8},
	}
}

func checkSame(t *testing.T, a, b rule.Rule, want bool) {
	t.Helper()
	if got := rule.Same(a, b); got != want {
		t.Errorf("Same(%+v, %+v) = %t", a, b, got)
	}
	if got := rule.Same(b, a); got != want {
		t.Errorf("Same(%+v, %+v) = %t", b, a, got)
	}
}

func TestSameRules(t *testing.T) { // P2.2
	checkSame(t, full(), full(), true)
	checkSame(t, rule.Rule{}, rule.Rule{}, true)
	checkSame(t, plain(rule.Weekly), plain(rule.Weekly), true)
	bad := rule.Rule{Freq: -9, Interval: math.MinInt, Count: math.MaxInt, Until: -1, Months: []int{99, 99}}
	same := bad
	same.Months = []int{99, 99}
	checkSame(t, bad, same, true)
}

func TestNilAndEmptyListsAreSame(t *testing.T) { // P2.2, R4
	for bits := range 16 {
		r := plain(rule.Monthly)
		if bits&1 != 0 {
			r.Months = []int{}
		}
		if bits&2 != 0 {
			r.Days = []int{}
		}
		if bits&4 != 0 {
			r.Weekdays = []rule.Nth{}
		}
		if bits&8 != 0 {
			r.Pos = make([]int, 0, 8)
		}
		checkSame(t, r, plain(rule.Monthly), true)
		check(t, r, api.OK)
	}
}

func TestRulesThatDifferInOneField(t *testing.T) { // P2.2
	for i, change := range []func(r *rule.Rule){
		func(r *rule.Rule) { r.Freq = rule.Monthly },
		func(r *rule.Rule) { r.Freq = rule.Freqs },
		func(r *rule.Rule) { r.Interval = 1 },
		func(r *rule.Rule) { r.Interval = -2 },
		func(r *rule.Rule) { r.Count = 0 },
		func(r *rule.Rule) { r.Count = 4 },
		func(r *rule.Rule) { r.Until = 0 },
		func(r *rule.Rule) { r.Until = 5 },
		func(r *rule.Rule) { r.Months = nil },
		func(r *rule.Rule) { r.Months = []int{1} },
		func(r *rule.Rule) { r.Months = []int{2, 1} },
		func(r *rule.Rule) { r.Months = []int{1, 3} },
		func(r *rule.Rule) { r.Months = []int{1, 2, 3} },
		func(r *rule.Rule) { r.Days = nil },
		func(r *rule.Rule) { r.Days = []int{-3} },
		func(r *rule.Rule) { r.Days = []int{4, -3} },
		func(r *rule.Rule) { r.Days = []int{3, 4} },
		func(r *rule.Rule) { r.Days = []int{-3, 4, 4} },
		func(r *rule.Rule) { r.Weekdays = nil },
		func(r *rule.Rule) { r.Weekdays = []rule.Nth{{-1, 5}} },
		func(r *rule.Rule) { r.Weekdays = []rule.Nth{{2, 6}, {-1, 5}} },
		func(r *rule.Rule) { r.Weekdays = []rule.Nth{{-1, 5}, {3, 6}} },
		func(r *rule.Rule) { r.Weekdays = []rule.Nth{{-1, 5}, {2, 5}} },
		func(r *rule.Rule) { r.Weekdays = []rule.Nth{{-1, 5}, {6, 2}} },
		func(r *rule.Rule) { r.Weekdays = []rule.Nth{{-1, 5}, {2, 6}, {2, 6}} },
		func(r *rule.Rule) { r.Pos = []int{} },
		func(r *rule.Rule) { r.Pos = []int{-7} },
		func(r *rule.Rule) { r.Pos = []int{8, -7} },
		func(r *rule.Rule) { r.Pos = []int{-7, -8} },
		func(r *rule.Rule) { r.Pos = []int{0, -7, 8} },
	} {
		r := full()
		change(&r)
		if rule.Same(full(), r) || rule.Same(r, full()) {
			t.Errorf("change %d: same", i)
		}
	}
	a, b := plain(rule.Monthly), plain(rule.Monthly)
	a.Months, b.Days = []int{1}, []int{1}
	checkSame(t, a, b, false)
}

// R5: the lists and their spare capacity stay as they are.
func TestArgumentsStay(t *testing.T) {
	numbers := []int{5, 3, 3, 9, 8, 7}
	nths := []rule.Nth{{3, 1}, {1, 1}, {9, 9}, {8, 8}}
	r := rule.Rule{Freq: rule.Yearly, Interval: 1, Months: numbers[:3], Days: numbers[:3], Weekdays: nths[:2], Pos: numbers[:3]}
	r.Check()
	r.Lists()
	rule.Same(r, r)
	if !slices.Equal(numbers, []int{5, 3, 3, 9, 8, 7}) || !slices.Equal(nths, []rule.Nth{{3, 1}, {1, 1}, {9, 9}, {8, 8}}) {
		t.Errorf("changed: %v %v", numbers, nths)
	}
}

// expected works Check's error out in another way: by all faults at once, of which the least wins.
func expected(r rule.Rule) api.Errno {
	least, e := math.MaxInt, api.OK
	fault := func(holds bool, place int, err api.Errno) {
		if holds && place < least {
			least, e = place, err
		}
	}
	outside := func(n, low, high int) bool { return n < low || n > high }
	most := []int{0, 0, 5, 53}
	fault(outside(int(r.Freq), 0, 3), 0, api.ErrKind)
	fault(outside(r.Interval, 1, 999) || outside(r.Count, 0, 9999) || outside(int(r.Until), 0, 3652059), 1, api.ErrRange)
	fault(r.Count != 0 && r.Until != 0, 2, api.ErrBoth)
	list := func(base, size int, out, falls func(i int) bool) {
		fault(size > 64, base, api.ErrSize)
		for i := range size {
			fault(out(i), base+1+2*i, api.ErrRange)
			fault(i > 0 && falls(i), base+2+2*i, api.ErrOrder)
		}
	}
	numbers := func(base int, l []int, low, high int) {
		out := func(i int) bool { return l[i] == 0 || outside(l[i], low, high) }
		list(base, len(l), out, func(i int) bool { return l[i] <= l[i-1] })
	}
	numbers(10000, r.Months, 1, 12)
	numbers(20000, r.Days, -31, 31)
	w := r.Weekdays
	list(30000, len(w), func(i int) bool {
		n := most[max(0, min(r.Freq, 3))]
		return outside(w[i].Day, 0, 6) || outside(w[i].N, -n, n)
	}, func(i int) bool { return w[i].N < w[i-1].N || w[i].N == w[i-1].N && w[i].Day <= w[i-1].Day })
	numbers(40000, r.Pos, -366, 366)
	fault(r.Freq == 1 && len(r.Days) > 0, 50000, api.ErrKind)
	fault(len(r.Pos) > 0 && len(r.Months)+len(r.Days)+len(r.Weekdays) == 0, 50000, api.ErrKind)
	return e
}

// eachList calls f with all lists of up to that many of the elements.
func eachList[E any](elements []E, most int, f func(list []E)) {
	f(nil)
	if most == 0 {
		return
	}
	for _, x := range elements {
		eachList(elements, most-1, func(rest []E) { f(append([]E{x}, rest...)) })
	}
}

func TestAllSmallLists(t *testing.T) { // P2.1
	numbers := []int{math.MinInt, -367, -366, -32, -31, -1, 0, 1, 12, 13, 31, 32, 366, 367, math.MaxInt}
	nths := []rule.Nth{{-54, 0}, {-53, 6}, {-6, 0}, {-5, 0}, {-1, 6}, {0, -1}, {0, 0}, {0, 6}, {0, 7}, {1, 0}, {5, 6}, {6, 3}, {53, 0}, {54, 0}}
	for _, f := range []rule.Freq{-1, rule.Daily, rule.Weekly, rule.Monthly, rule.Yearly, rule.Freqs} {
		eachList(numbers, 3, func(l []int) {
			for _, others := range []rule.Rule{{}, {Months: []int{1}}, {Days: []int{1}}, {Weekdays: []rule.Nth{{}}}, {Pos: []int{1}}} {
				others.Freq, others.Interval = f, 1
				months, days, pos := others, others, others
				months.Months, days.Days, pos.Pos = l, l, l
				check(t, months, expected(months))
				check(t, days, expected(days))
				check(t, pos, expected(pos))
			}
		})
		eachList(nths, 3, func(l []rule.Nth) {
			r := plain(f)
			r.Weekdays = l
			check(t, r, expected(r))
			r.Pos = []int{1}
			check(t, r, expected(r))
		})
	}
}

// A thousand elements are what a list may have at most.
func TestLongLists(t *testing.T) { // P1
	long := slices.Repeat([]int{math.MinInt, 0, math.MaxInt, 1}, 250)
	nths := slices.Repeat([]rule.Nth{{math.MinInt, math.MaxInt}, {}}, 500)
	r := rule.Rule{Freq: rule.Yearly, Interval: 1, Months: long, Days: long, Weekdays: nths, Pos: long}
	check(t, r, api.ErrSize)
	checkSame(t, r, r, true)
	other := r
	other.Pos = long[:999]
	checkSame(t, r, other, false)
	if !r.Lists() {
		t.Error("no lists")
	}
}

// lists: four lists from bytes, most of which give numbers in range.
func lists(r rule.Rule, b []byte) rule.Rule {
	for i := 0; i+1 < len(b); i += 2 {
		n := int(int8(b[i+1]))
		switch b[i] % 4 {
		case 0:
			r.Months = append(r.Months, n)
		case 1:
			r.Days = append(r.Days, n)
		case 2:
			r.Weekdays = append(r.Weekdays, rule.Nth{N: n, Day: int(b[i]) / 32})
		default:
			r.Pos = append(r.Pos, n*4)
		}
	}
	return r
}

func FuzzCheck(f *testing.F) { // P2.1, P2.2, P1
	f.Add(0, 1, 0, 0, []byte{0, 1, 0, 2})
	f.Add(2, 1, 5, 0, []byte{2, 1, 34, 1, 3, 255})
	f.Add(3, 999, 0, 3652059, []byte{0, 12, 1, 31, 2, 53, 3, 1})
	f.Add(math.MinInt, math.MaxInt, math.MinInt, math.MaxInt, []byte{})
	f.Fuzz(func(t *testing.T, freq, interval, count, until int, b []byte) {
		r := lists(rule.Rule{Freq: rule.Freq(freq), Interval: interval, Count: count, Until: civil.Day(until)}, b)
		check(t, r, expected(r))
		before := fmt.Sprint(r)
		checkSame(t, r, lists(rule.Rule{Freq: r.Freq, Interval: interval, Count: count, Until: r.Until}, b), true)
		if after := fmt.Sprint(r); after != before {
			t.Errorf("%s became %s", before, after)
		}
	})
}
