package preview_test

import (
	"math"
	"math/rand"
	"slices"
	"strings"
	"testing"
	"time"

	"kalends/api"
	"kalends/civil"
	"kalends/expand"
	"kalends/normal"
	"kalends/preview"
	"kalends/rfc"
	"kalends/rule"
)

var allFreqs = []rule.Freq{rule.Daily, rule.Weekly, rule.Monthly, rule.Yearly}

// day: of its text.
func day(t *testing.T, text string) civil.Day {
	t.Helper()
	d, ok := civil.Parse(text)
	if !ok {
		t.Fatalf("%q: the test's own fault: not a day", text)
	}
	return d
}

// ruleOf: a valid rule, of its text.
func ruleOf(t *testing.T, text string) rule.Rule {
	t.Helper()
	r, e := rfc.Parse(text)
	if e != api.OK {
		t.Fatalf("%q: the test's own fault: error %d", text, e)
	}
	return r
}

// texts: of days, separated by spaces.
func texts(days []civil.Day) string {
	var list []string
	for _, d := range days {
		list = append(list, d.Text())
	}
	return strings.Join(list, " ")
}

// number: of the period that contains a day, so that the next period has the next number.
func number(f rule.Freq, d civil.Day) int {
	at := time.Date(1, 1, int(d), 0, 0, 0, 0, time.UTC)
	switch f {
	case rule.Weekly:
		return (int(d) - 1) / 7
	case rule.Monthly:
		return at.Year()*12 + int(at.Month())
	case rule.Yearly:
		return at.Year()
	}
	return int(d)
}

// place: of a day's period among the rule's, from 0.
func place(a preview.Ask, d civil.Day) int {
	return (number(a.Rule.Freq, d) - number(a.Rule.Freq, a.Start)) / a.Rule.Interval
}

// within: those of the days that lie in the rule's first periods, so many of them.
func within(a preview.Ask, days []civil.Day, periods int) (list []civil.Day) {
	for _, d := range days {
		if place(a, d) < periods {
			list = append(list, d)
		}
	}
	return list
}

func answers(t *testing.T, a preview.Ask, want []civil.Day, short bool) {
	t.Helper()
	if got, s := preview.Of(a); !slices.Equal(got, want) || s != short {
		t.Errorf("Of(%+v) = %s %t, want %s %t", a, texts(got), s, texts(want), short)
	}
}

// needs: are these the days, for which just so many periods have to be examined? With any smaller Budget, only the days of as many periods are there.
func needs(t *testing.T, a preview.Ask, want []civil.Day, periods int) {
	t.Helper()
	for _, more := range []int{0, 1, 2, 1000, api.MaxBudget, math.MaxInt - periods} {
		a.Budget = periods + more
		answers(t, a, want, false)
	}
	for a.Budget = max(0, periods-40); a.Budget < periods; a.Budget++ {
		answers(t, a, within(a, want, a.Budget), true)
	}
	for a.Budget = 0; a.Budget < min(periods, 40); a.Budget++ {
		answers(t, a, within(a, want, a.Budget), true)
	}
}

// example is a question, the days that are its answer, and how many periods have to be examined for them.
type example struct {
	rule, start, from, to string
	limit                 int
	want                  string
	periods               int
}

func (x example) holds(t *testing.T) {
	t.Helper()
	a := preview.Ask{Rule: ruleOf(t, x.rule), Start: day(t, x.start), From: day(t, x.from), To: day(t, x.to), Limit: x.limit}
	var want []civil.Day
	for _, text := range strings.Fields(x.want) {
		want = append(want, day(t, text))
	}
	needs(t, a, want, x.periods)
}

func hold(t *testing.T, list []example) {
	t.Helper()
	for _, x := range list {
		x.holds(t)
	}
}

func TestExampleOfTheChapter(t *testing.T) { // P6.1
	a := preview.Ask{Rule: rule.Rule{Freq: rule.Daily, Interval: 1}, Start: 1, From: 1, To: 9, Limit: 2, Budget: 1}
	answers(t, a, []civil.Day{1}, true)
	a.Budget = 2
	answers(t, a, []civil.Day{1, 2}, false)
	a.Budget = 0
	answers(t, a, nil, true)
	a.Limit, a.Budget = 9, 9
	answers(t, a, []civil.Day{1, 2, 3, 4, 5, 6, 7, 8, 9}, false)
	a.Limit, a.Budget = 10, 8
	answers(t, a, []civil.Day{1, 2, 3, 4, 5, 6, 7, 8}, true)
}

// 2026-11-16 is a Monday.
func TestLimit(t *testing.T) { // P6.1: the first Limit days end the search, in the period in which the last of them is
	const start, end = "2026-11-16", "2030-12-31"
	hold(t, []example{
		{"FREQ=DAILY", start, start, end, 1, "2026-11-16", 1},
		{"FREQ=DAILY", start, start, end, 3, "2026-11-16 2026-11-17 2026-11-18", 3},
		{"FREQ=DAILY;INTERVAL=10", start, start, end, 3, "2026-11-16 2026-11-26 2026-12-06", 3},
		{"FREQ=DAILY;BYDAY=TU,TH", start, start, end, 3, "2026-11-17 2026-11-19 2026-11-24", 9},
		{"FREQ=WEEKLY", start, start, end, 3, "2026-11-16 2026-11-23 2026-11-30", 3},
		{"FREQ=WEEKLY;BYDAY=MO,WE,FR", start, start, end, 1, "2026-11-16", 1},
		{"FREQ=WEEKLY;BYDAY=MO,WE,FR", start, start, end, 2, "2026-11-16 2026-11-18", 1},
		{"FREQ=WEEKLY;BYDAY=MO,WE,FR", start, start, end, 3, "2026-11-16 2026-11-18 2026-11-20", 1},
		{"FREQ=WEEKLY;BYDAY=MO,WE,FR", start, start, end, 4, "2026-11-16 2026-11-18 2026-11-20 2026-11-23", 2},
		{"FREQ=WEEKLY;INTERVAL=3;BYDAY=SU", start, start, end, 3, "2026-11-22 2026-12-13 2027-01-03", 3},
		{"FREQ=MONTHLY", start, start, end, 2, "2026-11-16 2026-12-16", 2},
		{"FREQ=MONTHLY;BYMONTHDAY=31", start, start, end, 3, "2026-12-31 2027-01-31 2027-03-31", 5},
		{"FREQ=MONTHLY;INTERVAL=5;BYDAY=-1FR", start, start, end, 3, "2026-11-27 2027-04-30 2027-09-24", 3},
		{"FREQ=MONTHLY;BYDAY=-1MO,1MO", start, start, end, 2, "2026-11-30 2026-12-07", 2},
		{"FREQ=YEARLY", start, start, end, 2, "2026-11-16 2027-11-16", 2},
		{"FREQ=YEARLY;BYMONTH=2;BYMONTHDAY=29", start, start, end, 1, "2028-02-29", 3},
		{"FREQ=YEARLY;INTERVAL=2;BYMONTH=1,12;BYMONTHDAY=1", start, start, end, 3, "2026-12-01 2028-01-01 2028-12-01", 2},
	})
}

func TestLimitThatIsNotReached(t *testing.T) { // P6.1: as many days as there are, and a Limit beyond
	const start = "2026-11-16"
	for _, limit := range []int{3, 4, 1000, math.MaxInt} {
		hold(t, []example{
			{"FREQ=DAILY", start, start, "2026-11-18", limit, "2026-11-16 2026-11-17 2026-11-18", 3},
			{"FREQ=DAILY;COUNT=3", start, start, "2030-12-31", limit, "2026-11-16 2026-11-17 2026-11-18", 3},
			{"FREQ=DAILY;UNTIL=20261118", start, start, "2030-12-31", limit, "2026-11-16 2026-11-17 2026-11-18", 3},
			{"FREQ=WEEKLY;BYDAY=MO,WE,FR", start, start, "2026-11-20", limit, "2026-11-16 2026-11-18 2026-11-20", 1},
			{"FREQ=YEARLY;BYMONTH=1,6,12;BYMONTHDAY=-1", start, start, "2027-06-30", limit, "2026-12-31 2027-01-31 2027-06-30", 2},
		})
	}
}

func TestLimitOfNoDays(t *testing.T) { // P6.1: the first period has to be examined nevertheless, if it begins early enough
	hold(t, []example{
		{"FREQ=DAILY", "2026-11-16", "2026-11-16", "2030-12-31", 0, "", 1},
		{"FREQ=DAILY;COUNT=1", "2026-11-16", "2026-11-16", "2030-12-31", 0, "", 1},
		{"FREQ=DAILY", "2026-11-16", "2026-11-16", "2026-11-16", 0, "", 1},
		{"FREQ=DAILY", "2026-11-16", "2026-11-16", "2026-11-15", 0, "", 0},
		{"FREQ=DAILY", "2026-11-16", "2026-12-24", "2030-12-31", 0, "", 1},
		{"FREQ=DAILY;UNTIL=20261116", "2026-11-16", "2026-11-16", "2030-12-31", 0, "", 1},
		{"FREQ=DAILY;UNTIL=20261115", "2026-11-16", "2026-11-16", "2030-12-31", 0, "", 0},
		{"FREQ=DAILY;BYMONTH=2;BYMONTHDAY=30", "2026-11-16", "2026-11-16", "2030-12-31", 0, "", 1},
		{"FREQ=WEEKLY", "2026-11-18", "2026-11-18", "2026-11-16", 0, "", 1},
		{"FREQ=WEEKLY", "2026-11-18", "2026-11-18", "2026-11-15", 0, "", 0},
		{"FREQ=WEEKLY;UNTIL=20261116", "2026-11-18", "2026-11-18", "2030-12-31", 0, "", 1},
		{"FREQ=WEEKLY;UNTIL=20261115", "2026-11-18", "2026-11-18", "2030-12-31", 0, "", 0},
		{"FREQ=MONTHLY;BYMONTHDAY=1", "2026-11-18", "2026-11-18", "2026-11-01", 0, "", 1},
		{"FREQ=MONTHLY;BYMONTHDAY=1", "2026-11-18", "2026-11-18", "2026-10-31", 0, "", 0},
		{"FREQ=YEARLY", "2026-11-18", "2026-11-18", "2026-01-01", 0, "", 1},
		{"FREQ=YEARLY", "2026-11-18", "2026-11-18", "2025-12-31", 0, "", 0},
		{"FREQ=YEARLY;UNTIL=20260101", "2026-11-18", "2026-11-18", "2030-12-31", 0, "", 1},
		{"FREQ=YEARLY;UNTIL=20251231", "2026-11-18", "2026-11-18", "2030-12-31", 0, "", 0},
	})
}

func TestCount(t *testing.T) { // P6.1: Count days, whether they lie from From to To or not
	const start, end = "2026-11-16", "2030-12-31"
	hold(t, []example{
		{"FREQ=DAILY;COUNT=1", start, start, end, 9, "2026-11-16", 1},
		{"FREQ=DAILY;INTERVAL=2;COUNT=2", start, start, end, 9, "2026-11-16 2026-11-18", 2},
		{"FREQ=WEEKLY;COUNT=2;BYDAY=MO,WE,FR", start, start, end, 9, "2026-11-16 2026-11-18", 1},
		{"FREQ=WEEKLY;COUNT=3;BYDAY=MO,WE,FR", start, start, end, 9, "2026-11-16 2026-11-18 2026-11-20", 1},
		{"FREQ=WEEKLY;COUNT=4;BYDAY=MO,WE,FR", start, start, end, 9, "2026-11-16 2026-11-18 2026-11-20 2026-11-23", 2},
		// The days before the start are none of them.
		{"FREQ=WEEKLY;COUNT=3;BYDAY=MO,WE,FR", "2026-11-18", "2026-11-16", end, 9, "2026-11-18 2026-11-20 2026-11-23", 2},
		{"FREQ=WEEKLY;COUNT=1;BYDAY=MO", "2026-11-18", "2026-11-16", end, 9, "2026-11-23", 2},
		{"FREQ=MONTHLY;COUNT=2;BYMONTHDAY=-1,1", start, start, end, 9, "2026-11-30 2026-12-01", 2},
		{"FREQ=YEARLY;COUNT=2;BYMONTH=1,12;BYMONTHDAY=1", start, start, end, 9, "2026-12-01 2027-01-01", 2},
		// Those before From are.
		{"FREQ=DAILY;COUNT=3", start, "2026-11-17", end, 9, "2026-11-17 2026-11-18", 3},
		{"FREQ=DAILY;COUNT=3", start, "2026-11-18", end, 9, "2026-11-18", 3},
		{"FREQ=DAILY;COUNT=3", start, "2026-11-19", end, 9, "", 3},
		{"FREQ=DAILY;COUNT=3", start, "2030-12-31", end, 9, "", 3},
		{"FREQ=WEEKLY;COUNT=4;BYDAY=MO,WE,FR", start, "2026-11-19", end, 9, "2026-11-20 2026-11-23", 2},
		{"FREQ=WEEKLY;COUNT=3;BYDAY=MO,WE,FR", start, "2026-11-21", end, 9, "", 1},
		{"FREQ=YEARLY;COUNT=1;BYMONTH=12;BYMONTHDAY=1", start, "2026-12-02", end, 9, "", 1},
		// Limit, or To, holds first.
		{"FREQ=DAILY;COUNT=9", start, start, end, 2, "2026-11-16 2026-11-17", 2},
		{"FREQ=DAILY;COUNT=9", start, start, "2026-11-17", 9, "2026-11-16 2026-11-17", 2},
		{"FREQ=DAILY;COUNT=9", start, "2026-11-23", end, 1, "2026-11-23", 8},
		// Fewer days than that.
		{"FREQ=DAILY;COUNT=9;BYMONTH=12", start, start, "2026-12-02", 9, "2026-12-01 2026-12-02", 17},
	})
}

func TestUntil(t *testing.T) { // P6.1: a day after Until within a period, and a period that begins after it
	const start, end = "2026-11-16", "2030-12-31"
	hold(t, []example{
		{"FREQ=DAILY;UNTIL=20261117", start, start, end, 9, "2026-11-16 2026-11-17", 2},
		{"FREQ=DAILY;UNTIL=20261116", start, start, end, 9, "2026-11-16", 1},
		{"FREQ=DAILY;UNTIL=20261115", start, start, end, 9, "", 0},
		{"FREQ=DAILY;INTERVAL=5;UNTIL=20261120", start, start, end, 9, "2026-11-16", 1},
		{"FREQ=DAILY;INTERVAL=5;UNTIL=20261121", start, start, end, 9, "2026-11-16 2026-11-21", 2},
		{"FREQ=WEEKLY;UNTIL=20261117;BYDAY=MO,WE,FR", start, start, end, 9, "2026-11-16", 1},
		{"FREQ=WEEKLY;UNTIL=20261118;BYDAY=MO,WE,FR", start, start, end, 9, "2026-11-16 2026-11-18", 1},
		{"FREQ=WEEKLY;UNTIL=20261122;BYDAY=MO,WE,FR", start, start, end, 9, "2026-11-16 2026-11-18 2026-11-20", 1},
		{"FREQ=WEEKLY;UNTIL=20261123;BYDAY=MO,WE,FR", start, start, end, 9, "2026-11-16 2026-11-18 2026-11-20 2026-11-23", 2},
		{"FREQ=WEEKLY;UNTIL=20261123;BYDAY=WE", start, start, end, 9, "2026-11-18", 2},
		{"FREQ=WEEKLY;INTERVAL=2;UNTIL=20261129;BYDAY=MO", start, start, end, 9, "2026-11-16", 1},
		{"FREQ=WEEKLY;INTERVAL=2;UNTIL=20261130;BYDAY=WE", start, start, end, 9, "2026-11-18", 2},
		{"FREQ=WEEKLY;UNTIL=20261116;BYDAY=MO,WE,FR", "2026-11-18", start, end, 9, "", 1},
		{"FREQ=MONTHLY;UNTIL=20261231;BYMONTHDAY=-1", start, start, end, 9, "2026-11-30 2026-12-31", 2},
		{"FREQ=MONTHLY;UNTIL=20261230;BYMONTHDAY=-1", start, start, end, 9, "2026-11-30", 2},
		{"FREQ=MONTHLY;UNTIL=20261130;BYMONTHDAY=-1", start, start, end, 9, "2026-11-30", 1},
		{"FREQ=MONTHLY;UNTIL=20261101;BYMONTHDAY=-1", start, start, end, 9, "", 1},
		{"FREQ=MONTHLY;UNTIL=20261031;BYMONTHDAY=-1", start, start, end, 9, "", 0},
		{"FREQ=YEARLY;INTERVAL=3;UNTIL=20281231", start, start, end, 9, "2026-11-16", 1},
		{"FREQ=YEARLY;INTERVAL=3;UNTIL=20290101", start, start, end, 9, "2026-11-16", 2},
		{"FREQ=YEARLY;INTERVAL=3;UNTIL=20291116", start, start, end, 9, "2026-11-16 2029-11-16", 2},
		// Before From, and after To.
		{"FREQ=DAILY;UNTIL=20261118", start, "2026-11-19", end, 9, "", 3},
		{"FREQ=DAILY;UNTIL=20261118", start, "2026-11-18", end, 9, "2026-11-18", 3},
		{"FREQ=DAILY;UNTIL=20261118", start, start, "2026-11-17", 9, "2026-11-16 2026-11-17", 2},
		{"FREQ=DAILY;UNTIL=20261118", start, start, "2026-11-18", 9, "2026-11-16 2026-11-17 2026-11-18", 3},
		{"FREQ=DAILY;UNTIL=20261118", start, start, end, 2, "2026-11-16 2026-11-17", 2},
		{"FREQ=DAILY;UNTIL=99991231", "9999-12-30", "9999-12-30", "9999-12-31", 9, "9999-12-30 9999-12-31", 2},
	})
}

func TestTo(t *testing.T) { // P6.1: a day after To within a period, and a period that begins after it
	const start = "2026-11-16"
	hold(t, []example{
		{"FREQ=DAILY", start, start, "2026-11-16", 9, "2026-11-16", 1},
		{"FREQ=DAILY;INTERVAL=5", start, start, "2026-11-20", 9, "2026-11-16", 1},
		{"FREQ=DAILY;INTERVAL=5", start, start, "2026-11-21", 9, "2026-11-16 2026-11-21", 2},
		{"FREQ=WEEKLY;BYDAY=MO,WE,FR", start, start, "2026-11-17", 9, "2026-11-16", 1},
		{"FREQ=WEEKLY;BYDAY=MO,WE,FR", start, start, "2026-11-18", 9, "2026-11-16 2026-11-18", 1},
		{"FREQ=WEEKLY;BYDAY=MO,WE,FR", start, start, "2026-11-22", 9, "2026-11-16 2026-11-18 2026-11-20", 1},
		{"FREQ=WEEKLY;BYDAY=WE", start, start, "2026-11-23", 9, "2026-11-18", 2},
		{"FREQ=WEEKLY;INTERVAL=2;BYDAY=WE", start, start, "2026-11-29", 9, "2026-11-18", 1},
		{"FREQ=WEEKLY;INTERVAL=2;BYDAY=WE", start, start, "2026-11-30", 9, "2026-11-18", 2},
		{"FREQ=MONTHLY;BYMONTHDAY=-1", start, start, "2026-11-30", 9, "2026-11-30", 1},
		{"FREQ=MONTHLY;BYMONTHDAY=-1", start, start, "2026-12-01", 9, "2026-11-30", 2},
		{"FREQ=YEARLY", start, start, "2028-12-31", 9, "2026-11-16 2027-11-16 2028-11-16", 3},
		{"FREQ=YEARLY;INTERVAL=2", start, start, "2028-01-01", 9, "2026-11-16", 2},
		// Before the start: examined only if To is in the period of the start.
		{"FREQ=DAILY", start, start, "2026-11-15", 9, "", 0},
		{"FREQ=DAILY", start, "0001-01-01", "2026-11-15", 9, "", 0},
		{"FREQ=DAILY", start, "0001-01-01", "0001-01-01", 9, "", 0},
		{"FREQ=WEEKLY;BYDAY=MO,TU,WE,TH,FR,SA,SU", "2026-11-18", "2026-11-16", "2026-11-17", 9, "", 1},
		{"FREQ=WEEKLY;BYDAY=MO,TU,WE,TH,FR,SA,SU", "2026-11-18", "2026-11-16", "2026-11-16", 9, "", 1},
		{"FREQ=WEEKLY;BYDAY=MO,TU,WE,TH,FR,SA,SU", "2026-11-18", "2026-11-09", "2026-11-15", 9, "", 0},
		{"FREQ=MONTHLY;BYMONTHDAY=1,2", "2026-11-18", "2026-11-01", "2026-11-01", 9, "", 1},
		{"FREQ=MONTHLY;BYMONTHDAY=1,2", "2026-11-18", "2026-10-01", "2026-10-31", 9, "", 0},
		{"FREQ=YEARLY", "2026-11-18", "2026-01-01", "2026-01-01", 9, "", 1},
		{"FREQ=YEARLY", "2026-11-18", "2025-01-01", "2025-12-31", 9, "", 0},
		// Before From: no day lies there, but the periods up to To are examined.
		{"FREQ=DAILY", start, "2026-11-20", "2026-11-18", 9, "", 3},
		{"FREQ=DAILY", start, "2026-11-20", "2026-11-18", 0, "", 1},
		{"FREQ=WEEKLY;BYDAY=MO,WE,FR", start, "2026-11-19", "2026-11-18", 9, "", 1},
		{"FREQ=MONTHLY", start, "9999-12-31", "2027-02-01", 9, "", 4},
		{"FREQ=DAILY", start, "2026-11-20", "2026-11-15", 9, "", 0},
	})
}

func TestToTheLastDayThereIs(t *testing.T) { // P6.1: where there is no next period
	const end = "9999-12-31"
	hold(t, []example{
		{"FREQ=DAILY", "9999-12-29", "9999-12-29", end, 9, "9999-12-29 9999-12-30 9999-12-31", 3},
		{"FREQ=DAILY", end, end, end, 9, "9999-12-31", 1},
		{"FREQ=DAILY", end, "0001-01-01", end, 9, "9999-12-31", 1},
		{"FREQ=DAILY;INTERVAL=999", "9999-12-01", "9999-12-01", end, 9, "9999-12-01", 1},
		{"FREQ=DAILY;COUNT=9999", "9999-12-30", "9999-12-30", end, 9, "9999-12-30 9999-12-31", 2},
		{"FREQ=WEEKLY", "9999-12-22", "9999-12-22", end, 9, "9999-12-22 9999-12-29", 2},
		{"FREQ=WEEKLY;BYDAY=SA", "9999-12-22", "9999-12-22", end, 9, "9999-12-25", 2},
		{"FREQ=WEEKLY;INTERVAL=2", "9999-12-22", "9999-12-22", end, 9, "9999-12-22", 1},
		{"FREQ=MONTHLY", "9999-11-30", "9999-11-30", end, 9, "9999-11-30 9999-12-30", 2},
		{"FREQ=MONTHLY;INTERVAL=2", "9999-11-30", "9999-11-30", end, 9, "9999-11-30", 1},
		{"FREQ=YEARLY", "9998-05-05", "9998-05-05", end, 9, "9998-05-05 9999-05-05", 2},
		{"FREQ=YEARLY;INTERVAL=999", "9001-05-05", "9001-05-06", end, 9, "", 1},
		{"FREQ=YEARLY;INTERVAL=999;BYMONTH=12;BYMONTHDAY=31", "0009-05-05", "9000-01-01", end, 9, "9000-12-31 9999-12-31", 11},
	})
}

func TestFrom(t *testing.T) { // P6.1: before the start, at it, and after it; all periods from the start on are examined
	const start, end = "2026-11-16", "2030-12-31"
	hold(t, []example{
		{"FREQ=DAILY", start, "0001-01-01", end, 2, "2026-11-16 2026-11-17", 2},
		{"FREQ=DAILY", start, "2026-11-15", end, 2, "2026-11-16 2026-11-17", 2},
		{"FREQ=DAILY", start, start, end, 2, "2026-11-16 2026-11-17", 2},
		{"FREQ=DAILY", start, "2026-11-17", end, 2, "2026-11-17 2026-11-18", 3},
		{"FREQ=DAILY", start, "2026-11-26", end, 2, "2026-11-26 2026-11-27", 12},
		{"FREQ=DAILY;INTERVAL=2", start, "2026-11-19", end, 2, "2026-11-20 2026-11-22", 4},
		{"FREQ=WEEKLY;BYDAY=MO,WE,FR", "2026-11-18", "2026-11-16", end, 2, "2026-11-18 2026-11-20", 1},
		{"FREQ=WEEKLY;BYDAY=MO,WE,FR", start, "2026-11-18", end, 2, "2026-11-18 2026-11-20", 1},
		{"FREQ=WEEKLY;BYDAY=MO,WE,FR", start, "2026-11-19", end, 2, "2026-11-20 2026-11-23", 2},
		{"FREQ=MONTHLY;INTERVAL=2;BYMONTHDAY=1", start, "2027-01-01", end, 1, "2027-01-01", 2},
		{"FREQ=MONTHLY;INTERVAL=2;BYMONTHDAY=1", start, "2027-01-02", end, 1, "2027-03-01", 3},
		{"FREQ=YEARLY", start, "2028-11-16", end, 1, "2028-11-16", 3},
		{"FREQ=YEARLY", start, "2028-11-17", end, 1, "2029-11-16", 4},
		{"FREQ=DAILY", "2026-11-16", "2026-11-18", "2026-11-18", 9, "2026-11-18", 3},
	})
}

func TestRulesWithoutDays(t *testing.T) { // P6.1: all of the Budget is used up, or the end is reached
	hold(t, []example{
		{"FREQ=DAILY;BYMONTH=2;BYMONTHDAY=30", "2026-11-16", "2026-11-16", "2026-12-16", 1, "", 31},
		{"FREQ=DAILY;INTERVAL=7;BYDAY=TU", "2026-11-16", "2026-11-16", "2026-12-16", 1, "", 5},
		{"FREQ=DAILY;COUNT=1;BYDAY=MO;BYSETPOS=2", "2026-11-16", "2026-11-16", "2026-12-16", 1, "", 31},
		{"FREQ=WEEKLY;BYDAY=MO,TU;BYSETPOS=3", "2026-11-16", "2026-11-16", "2026-12-16", 1, "", 5},
		{"FREQ=WEEKLY;UNTIL=20261206;BYDAY=MO,TU;BYSETPOS=3", "2026-11-16", "2026-11-16", "2026-12-16", 1, "", 3},
		{"FREQ=MONTHLY;BYMONTH=4;BYMONTHDAY=31", "2026-01-31", "2026-01-31", "2026-12-31", 1, "", 12},
		{"FREQ=MONTHLY;INTERVAL=12;BYMONTH=4", "9026-01-31", "9026-01-31", "9999-12-31", 1, "", 974},
		{"FREQ=YEARLY;BYMONTH=2;BYMONTHDAY=30", "9001-01-01", "9001-01-01", "9999-12-31", 1, "", 999},
		{"FREQ=YEARLY;INTERVAL=999;BYMONTH=2;BYMONTHDAY=30", "0001-12-31", "0001-01-01", "9999-12-31", 1, "", 11},
	})
}

// A million periods, for nothing.
func TestGreatestBudget(t *testing.T) { // P6.1
	a := preview.Ask{Rule: ruleOf(t, "FREQ=DAILY;BYMONTH=2;BYMONTHDAY=30"), Start: civil.First, From: civil.First, To: api.MaxBudget, Limit: api.MaxPreview, Budget: api.MaxBudget}
	answers(t, a, nil, false)
	a.To++
	answers(t, a, nil, true)
	a.Rule = ruleOf(t, "FREQ=DAILY")
	a.From = api.MaxBudget - 1
	answers(t, a, []civil.Day{api.MaxBudget - 1, api.MaxBudget}, true)
}

// expected: the answer by the words of the chapter, from all of the rule's days up to the last one that matters; and the number of periods that have to be examined.
func expected(a preview.Ask) (want []civil.Day, periods int) {
	last := a.To
	if a.Rule.Until != 0 {
		last = min(last, a.Rule.Until)
	}
	if number(a.Rule.Freq, last) < number(a.Rule.Freq, a.Start) {
		return nil, 0
	}
	periods = place(a, last) + 1
	r := a.Rule
	r.Count, r.Until = 0, last
	all := slices.Collect(expand.Days(r, a.Start))
	if n := a.Rule.Count; n > 0 && n <= len(all) {
		all = all[:n]
		periods = min(periods, place(a, all[n-1])+1)
	}
	want = slices.DeleteFunc(all, func(d civil.Day) bool { return d < a.From })
	if a.Limit == 0 {
		return nil, 1
	}
	if a.Limit <= len(want) {
		want = want[:a.Limit]
		periods = min(periods, place(a, want[a.Limit-1])+1)
	}
	return want, periods
}

func randomList(x *rand.Rand, most int, element func() int) (list []int) {
	for range x.Intn(most + 1) {
		list = append(list, element())
	}
	slices.Sort(list)
	return slices.Compact(list)
}

// signed: a number from 1 to most, or below 0.
func signed(x *rand.Rand, most int) int {
	return (1 + x.Intn(most)) * (1 - 2*x.Intn(2))
}

// randomRule: a valid one, with a Count, an Until near the start, or neither.
func randomRule(x *rand.Rand, start civil.Day) rule.Rule {
	r := rule.Rule{Freq: allFreqs[x.Intn(4)], Interval: 1 + x.Intn(3)*x.Intn(3)}
	if x.Intn(4) == 0 {
		r.Months = randomList(x, 5, func() int { return 1 + x.Intn(12) })
	}
	if x.Intn(3) == 0 && r.Freq != rule.Weekly {
		r.Days = randomList(x, 8, func() int { return signed(x, 31) })
	}
	if x.Intn(2) == 0 {
		most := []int{0, 0, 5, 9}[r.Freq] * x.Intn(2)
		for range x.Intn(7) {
			r.Weekdays = append(r.Weekdays, rule.Nth{N: x.Intn(2*most+1) - most, Day: x.Intn(7)})
		}
		slices.SortFunc(r.Weekdays, rule.Order)
		r.Weekdays = slices.Compact(r.Weekdays)
	}
	if x.Intn(4) == 0 && r.Lists() {
		r.Pos = randomList(x, 5, func() int { return signed(x, 5) })
	}
	switch x.Intn(3) {
	case 0:
		r.Count = 1 + x.Intn(20)
	case 1:
		r.Until = near(x, start)
	}
	return r
}

// near: a day some way before or after another, often only some days.
func near(x *rand.Rand, d civil.Day) civil.Day {
	d += civil.Day(x.Intn([]int{3, 30, 300, 1000}[x.Intn(4)]) - x.Intn([]int{3, 30, 100}[x.Intn(3)]))
	return min(max(d, civil.First), civil.Last)
}

// randomAsk: one that P6.1 speaks of, without a Budget.
func randomAsk(x *rand.Rand) preview.Ask {
	middle := []civil.Day{civil.First, 20, 739936, 739000, 738900, civil.Last - 500, civil.Last - 10, civil.Last}[x.Intn(8)]
	start := near(x, middle)
	a := preview.Ask{Rule: randomRule(x, start), Start: start, From: near(x, start), To: near(x, start)}
	if x.Intn(4) == 0 {
		a.From = []civil.Day{civil.First, start}[x.Intn(2)]
	}
	if x.Intn(2) == 0 {
		a.To = min(start+civil.Day(x.Intn(2000)), civil.Last)
	}
	a.Limit = x.Intn([]int{2, 10, 100}[x.Intn(3)])
	return a
}

func TestAnyQuestions(t *testing.T) { // P6.1, and P5 of the whole
	x := rand.New(rand.NewSource(6))
	var met, none, short int
	for range 6000 {
		a := randomAsk(x)
		if e := a.Rule.Check(); e != api.OK {
			t.Fatalf("%+v: the test's own fault: error %d", a.Rule, e)
		}
		want, periods := expected(a)
		for _, a.Budget = range []int{0, 1, 2, periods / 2, periods - 1, periods, periods + 1, api.MaxBudget} {
			if a.Budget < 0 {
				continue
			}
			answers(t, a, within(a, want, a.Budget), a.Budget < periods)
			if a.Budget < periods {
				short++
			}
		}
		if len(want) > 0 {
			met++
		}
		if periods == 0 {
			none++
		}
		if t.Failed() {
			return
		}
	}
	if met < 1000 || none < 100 || short < 5000 {
		t.Errorf("only %d questions with days, %d without periods, %d answers cut short", met, none, short)
	}
}

// Without expected's words: the days that Days yields and that lie there, as far as they are asked for.
func TestDaysOfTheRule(t *testing.T) { // P6.1, and P5 of the whole
	x := rand.New(rand.NewSource(7))
	for range 3000 {
		a := randomAsk(x)
		a.Budget = x.Intn(40)
		if x.Intn(2) == 0 {
			a.Budget = api.MaxBudget
		}
		if a.Rule.Until == 0 && a.Start < civil.Last-2000 {
			continue // there may be all days to look through
		}
		got, short := preview.Of(a)
		var want []civil.Day
		for d := range expand.Days(a.Rule, a.Start) {
			if a.From <= d && d <= a.To && len(want) < a.Limit {
				want = append(want, d)
			}
		}
		if short && (len(got) > len(want) || !slices.Equal(got, want[:len(got)])) {
			t.Fatalf("Of(%+v) = %v, cut short, of %v", a, got, want)
		}
		if !short && !slices.Equal(got, want) {
			t.Fatalf("Of(%+v) = %v, want %v", a, got, want)
		}
	}
}

func beginsWith(list, first []civil.Day) bool {
	return len(list) >= len(first) && slices.Equal(list[:len(first)], first)
}

func TestMoreLosesNothing(t *testing.T) { // P6.1: of a greater Limit, a later To, a greater Budget
	x := rand.New(rand.NewSource(8))
	longer := 0
	for range 6000 {
		a := randomAsk(x)
		a.Budget = x.Intn(60)
		got, _ := preview.Of(a)
		b := a
		switch x.Intn(4) {
		case 0:
			b.Limit += x.Intn(20)
		case 1:
			b.To = min(b.To+civil.Day(x.Intn(500)), civil.Last)
		case 2:
			b.Budget += x.Intn(50)
		case 3:
			b.Limit, b.Budget, b.To = b.Limit+x.Intn(20), b.Budget+x.Intn(50), min(b.To+civil.Day(x.Intn(500)), civil.Last)
		}
		more, _ := preview.Of(b)
		if !beginsWith(more, got) {
			t.Fatalf("Of(%+v) = %v, but Of(%+v) = %v", a, got, b, more)
		}
		if len(more) > len(got) {
			longer++
		}
	}
	if longer < 500 {
		t.Errorf("only %d longer answers", longer)
	}
}

func TestEnoughBudget(t *testing.T) { // P6.2
	x := rand.New(rand.NewSource(9))
	for range 10000 {
		a := randomAsk(x)
		if x.Intn(3) == 0 {
			a.Limit = math.MaxInt
		}
		f := a.Rule.Freq
		a.Budget = max(0, number(f, a.To)-number(f, a.Start)+1)
		if got, short := preview.Of(a); short {
			t.Fatalf("Of(%+v) = %v, cut short", a, got)
		}
	}
}

func TestEnoughBudgetToTheLastDay(t *testing.T) { // P6.2, and that a period less is not enough where no other end is
	for _, k := range []struct {
		f       rule.Freq
		start   civil.Day
		periods int
	}{
		{rule.Daily, civil.Last - 99999, 100000}, {rule.Weekly, civil.First, (int(civil.Last) + 6) / 7}, {rule.Monthly, civil.First, 9999 * 12}, {rule.Yearly, civil.First, 9999},
	} {
		for _, r := range []rule.Rule{{Freq: k.f, Interval: 1}, {Freq: k.f, Interval: 1, Weekdays: []rule.Nth{{Day: 2}}, Pos: []int{366}}} {
			a := preview.Ask{Rule: r, Start: k.start, From: civil.Last, To: civil.Last, Limit: 2, Budget: k.periods}
			if got, short := preview.Of(a); short {
				t.Errorf("Of(%+v) = %v, cut short", a, got)
			}
			a.Budget--
			if got, short := preview.Of(a); !short || len(got) > 0 {
				t.Errorf("Of(%+v) = %v, %t", a, got, short)
			}
		}
	}
}

func TestNormalFormHasTheSamePreview(t *testing.T) { // P6 of the whole
	const months, week = "BYMONTH=1,2,3,4,5,6,7,8,9,10,11,12", "BYDAY=MO,TU,WE,TH,FR,SA,SU"
	x := rand.New(rand.NewSource(10))
	for _, text := range []string{
		"FREQ=DAILY;" + week, "FREQ=DAILY;INTERVAL=3;" + months, "FREQ=DAILY;COUNT=7;" + months + ";" + week, "FREQ=DAILY;UNTIL=20270105;BYMONTHDAY=-1,1;" + week,
		"FREQ=DAILY;" + months + ";" + week + ";BYSETPOS=1", "FREQ=DAILY;BYMONTH=1,12;" + week + ";BYSETPOS=-1,2",
		"FREQ=WEEKLY;" + months, "FREQ=WEEKLY;COUNT=5;" + months + ";BYDAY=MO,FR;BYSETPOS=-1",
		"FREQ=MONTHLY;" + months, "FREQ=MONTHLY;" + months + ";BYMONTHDAY=-1;BYSETPOS=1", "FREQ=MONTHLY;INTERVAL=2;BYDAY=-1TU,TU,1TU,2WE", "FREQ=MONTHLY;" + months + ";BYDAY=MO,5MO;BYSETPOS=2",
		"FREQ=YEARLY;BYDAY=-53SU,SU,20MO", "FREQ=YEARLY;COUNT=30;BYMONTH=3;BYDAY=SU,1SU", "FREQ=YEARLY;UNTIL=20281231;BYDAY=FR,13FR;BYSETPOS=-13,13",
	} {
		r := ruleOf(t, text)
		n := normal.Of(r)
		if rule.Same(r, n) {
			t.Errorf("%s: the test's own fault: this is a normal form", text)
		}
		for range 200 {
			a := randomAsk(x)
			a.Start, a.From, a.To = near(x, 739936), near(x, 739936), near(x, 740100)
			a.Budget = x.Intn([]int{3, 30, 2000}[x.Intn(3)])
			a.Rule = r
			want, short := preview.Of(a)
			a.Rule = n
			answers(t, a, want, short)
		}
	}
	for range 2000 {
		a := randomAsk(x)
		a.Budget = x.Intn(100)
		want, short := preview.Of(a)
		a.Rule = normal.Of(a.Rule)
		answers(t, a, want, short)
	}
}

// emptied: the rule with empty lists instead of nil ones.
func emptied(r rule.Rule) rule.Rule {
	for _, list := range []*[]int{&r.Months, &r.Days, &r.Pos} {
		if *list == nil {
			*list = make([]int, 0, 3)
		}
	}
	if r.Weekdays == nil {
		r.Weekdays = []rule.Nth{}
	}
	return r
}

func TestNilAndEmptyLists(t *testing.T) { // R4
	x := rand.New(rand.NewSource(11))
	for range 1000 {
		a := randomAsk(x)
		a.Budget = x.Intn(100)
		want, short := preview.Of(a)
		a.Rule = emptied(a.Rule)
		answers(t, a, want, short)
	}
}

// spare: the list with marked spare capacity behind it.
func spare[E any](list []E, mark E) []E {
	return slices.Concat(list, slices.Repeat([]E{mark}, 5))[:len(list)]
}

// whole: a copy of the rule's lists, with the spare capacity.
func whole(r rule.Rule) rule.Rule {
	r.Months, r.Days, r.Pos = slices.Clone(r.Months[:cap(r.Months)]), slices.Clone(r.Days[:cap(r.Days)]), slices.Clone(r.Pos[:cap(r.Pos)])
	r.Weekdays = slices.Clone(r.Weekdays[:cap(r.Weekdays)])
	return r
}

func TestNothingModifiedOrShared(t *testing.T) { // R5, R6
	x := rand.New(rand.NewSource(12))
	for range 1000 {
		a := randomAsk(x)
		a.Budget = x.Intn(100)
		a.Rule.Months, a.Rule.Days, a.Rule.Pos = spare(a.Rule.Months, 77), spare(a.Rule.Days, 77), spare(a.Rule.Pos, 77)
		a.Rule.Weekdays = spare(a.Rule.Weekdays, rule.Nth{N: 77, Day: 77})
		before := whole(a.Rule)
		got, short := preview.Of(a)
		want := slices.Clone(got)
		other := randomAsk(x)
		other.Budget = 100
		preview.Of(other)
		if !slices.Equal(got, want) {
			t.Fatalf("Of(%+v) = %v became %v", a, want, got)
		}
		all := got[:cap(got)]
		for i := range all {
			all[i] = -99
		}
		answers(t, a, want, short)
		if !rule.Same(whole(a.Rule), before) {
			t.Fatalf("%+v: the argument or what is behind it was modified", before)
		}
	}
}

func TestArgumentsThatAreNotValid(t *testing.T) { // P1, R7: no days, days beyond those that exist, numbers below 0
	days := []civil.Day{math.MinInt, -1, 0, civil.First, 739936, civil.Last, civil.Last + 1, math.MaxInt}
	numbers := []int{math.MinInt, -1, 0, 1, 5000, math.MaxInt}
	for _, f := range []rule.Freq{math.MinInt, -1, rule.Daily, rule.Weekly, rule.Monthly, rule.Yearly, rule.Freqs, math.MaxInt} {
		for _, r := range []rule.Rule{{Freq: f, Interval: 999}, {Freq: f, Interval: 999, Until: 740000, Weekdays: []rule.Nth{{}}, Pos: []int{-1}}} {
			for _, start := range days {
				for _, from := range days {
					for _, to := range days {
						for _, limit := range numbers {
							for _, budget := range numbers {
								preview.Of(preview.Ask{Rule: r, Start: start, From: from, To: to, Limit: limit, Budget: budget})
							}
						}
					}
				}
			}
		}
	}
}

func TestRulesThatAreNotValid(t *testing.T) { // P1, R7: there is an end and no panic, and the argument stays
	odd := []int{math.MinInt, math.MinInt + 1, -367, -54, -32, -1, 0, 1, 6, 7, 12, 13, 32, 54, 367, 1000, math.MaxInt - 1, math.MaxInt}
	x := rand.New(rand.NewSource(13))
	element := func() int {
		if x.Intn(2) == 0 {
			return odd[x.Intn(len(odd))]
		}
		return x.Intn(30) - 15
	}
	list := func(size int) (l []int) {
		for range size * x.Intn(2) {
			l = append(l, element())
		}
		return l
	}
	for _, size := range []int{0, 1, 2, 13, 65, 1000} {
		for range 300 {
			r := rule.Rule{Freq: rule.Freq(x.Intn(6) - 1), Interval: element(), Count: element(), Until: civil.Day(element())}
			if x.Intn(2) == 0 {
				r.Interval, r.Until = 1+x.Intn(999), 0
			}
			r.Months, r.Days, r.Pos = list(size), list(size), list(size)
			for range size * x.Intn(2) {
				r.Weekdays = append(r.Weekdays, rule.Nth{N: element(), Day: element()})
			}
			before := whole(r)
			start := civil.Last - civil.Day(x.Intn(1000))
			preview.Of(preview.Ask{Rule: r, Start: start, From: start, To: civil.Last, Limit: 100, Budget: math.MaxInt})
			preview.Of(preview.Ask{Rule: r, Start: start, From: start, To: civil.Last, Limit: element(), Budget: element()})
			if !rule.Same(whole(r), before) {
				t.Fatalf("modified %+v to %+v", before, r)
			}
		}
	}
}

// Where the chapter promises nothing: a negative Limit or Budget is as good as none, and there are no days from a start that is no day.
func TestBeyondThePromises(t *testing.T) { // P1, R7
	r := rule.Rule{Freq: rule.Daily, Interval: 1}
	for _, below := range []int{math.MinInt, -1} {
		answers(t, preview.Ask{Rule: r, Start: 9, From: 9, To: 99, Limit: below, Budget: 5}, nil, false)
		answers(t, preview.Ask{Rule: r, Start: 9, From: 9, To: 99, Limit: 5, Budget: below}, nil, true)
		r.Count = below
		answers(t, preview.Ask{Rule: r, Start: 9, From: 9, To: 99, Limit: 2, Budget: 5}, []civil.Day{9, 10}, false)
		r.Count = 0
	}
	for _, start := range []civil.Day{math.MinInt, -1, 0, civil.Last + 1, math.MaxInt} {
		answers(t, preview.Ask{Rule: r, Start: start, From: 1, To: civil.Last, Limit: 5, Budget: 5}, nil, false)
	}
}
