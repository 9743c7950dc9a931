package expand_test

import (
	"iter"
	"math"
	"math/rand"
	"slices"
	"strings"
	"testing"
	"time"

	"kalends/api"
	"kalends/civil"
	"kalends/expand"
	"kalends/rfc"
	"kalends/rule"
)

var allFreqs = []rule.Freq{rule.Daily, rule.Weekly, rule.Monthly, rule.Yearly}

// day: of its text.
func day(t *testing.T, text string) civil.Day {
	t.Helper()
	d, ok := civil.Parse(text)
	if !ok {
		t.Fatalf("%q: the test's own fault: not a day", text)
	}
	return d
}

// ruleOf: a valid rule, of its text.
func ruleOf(t *testing.T, text string) rule.Rule {
	t.Helper()
	r, e := rfc.Parse(text)
	if e != api.OK {
		t.Fatalf("%q: the test's own fault: error %d", text, e)
	}
	return r
}

func span(t *testing.T, from, to string) expand.Span {
	t.Helper()
	return expand.Span{From: day(t, from), To: day(t, to)}
}

// texts: of days, separated by spaces.
func texts(days []civil.Day) string {
	var list []string
	for _, d := range days {
		list = append(list, d.Text())
	}
	return strings.Join(list, " ")
}

// firstOf: the first elements, and no more than so many.
func firstOf[E any](seq iter.Seq[E], most int) (list []E) {
	for x := range seq {
		if len(list) == most {
			break
		}
		list = append(list, x)
	}
	return list
}

// The calendar's months, written out once more.
func monthLength(y, m int) int {
	switch m {
	case 2:
		if y%400 == 0 || y%4 == 0 && y%100 != 0 {
			return 29
		}
		return 28
	case 4, 6, 9, 11:
		return 30
	}
	return 31
}

func TestPeriodExamples(t *testing.T) { // P5.1
	for _, k := range []struct {
		f           rule.Freq
		d, from, to string
	}{
		{rule.Daily, "2026-11-16", "2026-11-16", "2026-11-16"},
		{rule.Weekly, "2026-11-15", "2026-11-09", "2026-11-15"},
		{rule.Weekly, "2026-11-16", "2026-11-16", "2026-11-22"},
		{rule.Weekly, "2026-11-19", "2026-11-16", "2026-11-22"},
		{rule.Weekly, "2026-11-22", "2026-11-16", "2026-11-22"},
		{rule.Weekly, "2026-12-31", "2026-12-28", "2027-01-03"},
		{rule.Weekly, "2027-01-01", "2026-12-28", "2027-01-03"},
		{rule.Weekly, "2024-02-29", "2024-02-26", "2024-03-03"},
		{rule.Monthly, "2026-11-01", "2026-11-01", "2026-11-30"},
		{rule.Monthly, "2026-11-30", "2026-11-01", "2026-11-30"},
		{rule.Monthly, "2026-12-31", "2026-12-01", "2026-12-31"},
		{rule.Monthly, "2023-02-28", "2023-02-01", "2023-02-28"},
		{rule.Monthly, "2024-02-28", "2024-02-01", "2024-02-29"},
		{rule.Monthly, "2000-02-29", "2000-02-01", "2000-02-29"},
		{rule.Monthly, "1900-02-28", "1900-02-01", "1900-02-28"},
		{rule.Yearly, "2026-01-01", "2026-01-01", "2026-12-31"},
		{rule.Yearly, "2026-11-16", "2026-01-01", "2026-12-31"},
		{rule.Yearly, "2024-12-31", "2024-01-01", "2024-12-31"},
		// The first days and the last ones that exist: the last week has no weekend.
		{rule.Daily, "0001-01-01", "0001-01-01", "0001-01-01"},
		{rule.Weekly, "0001-01-01", "0001-01-01", "0001-01-07"},
		{rule.Weekly, "0001-01-07", "0001-01-01", "0001-01-07"},
		{rule.Monthly, "0001-01-01", "0001-01-01", "0001-01-31"},
		{rule.Yearly, "0001-01-01", "0001-01-01", "0001-12-31"},
		{rule.Daily, "9999-12-31", "9999-12-31", "9999-12-31"},
		{rule.Weekly, "9999-12-31", "9999-12-27", "9999-12-31"},
		{rule.Weekly, "9999-12-27", "9999-12-27", "9999-12-31"},
		{rule.Weekly, "9999-12-26", "9999-12-20", "9999-12-26"},
		{rule.Monthly, "9999-12-31", "9999-12-01", "9999-12-31"},
		{rule.Yearly, "9999-12-31", "9999-01-01", "9999-12-31"},
	} {
		if got := expand.Period(k.f, day(t, k.d)); got != span(t, k.from, k.to) {
			t.Errorf("Period(%d, %s) = %s to %s, want %s to %s", k.f, k.d, got.From.Text(), got.To.Text(), k.from, k.to)
		}
	}
}

func TestPeriodOfEveryDay(t *testing.T) { // P5.1
	d := civil.First
	for y := 1; y <= 9999; y++ {
		length := 365 + monthLength(y, 2) - 28
		year := expand.Span{From: d, To: d + civil.Day(length) - 1}
		for m := 1; m <= 12; m++ {
			month := expand.Span{From: d, To: d + civil.Day(monthLength(y, m)) - 1}
			for ; d <= month.To; d++ {
				monday := (d-1)/7*7 + 1
				week := expand.Span{From: monday, To: min(monday+6, civil.Last)}
				for f, want := range []expand.Span{{From: d, To: d}, week, month, year} {
					if got := expand.Period(rule.Freq(f), d); got != want {
						t.Fatalf("Period(%d, %d) = %v, want %v", f, d, got, want)
					}
				}
			}
		}
	}
	if d != civil.Last+1 {
		t.Errorf("the test's own fault: %d days", d-1)
	}
}

func TestPeriodsExamples(t *testing.T) { // P5.1
	for _, k := range []struct{ rule, start, want string }{
		{"FREQ=DAILY", "2026-11-16", "2026-11-16/2026-11-16 2026-11-17/2026-11-17 2026-11-18/2026-11-18"},
		{"FREQ=DAILY;INTERVAL=15", "2026-11-16", "2026-11-16/2026-11-16 2026-12-01/2026-12-01 2026-12-16/2026-12-16"},
		{"FREQ=DAILY;INTERVAL=999", "2024-01-01", "2024-01-01/2024-01-01 2026-09-26/2026-09-26 2029-06-21/2029-06-21"},
		{"FREQ=WEEKLY", "2026-11-22", "2026-11-16/2026-11-22 2026-11-23/2026-11-29 2026-11-30/2026-12-06"},
		{"FREQ=WEEKLY;INTERVAL=2", "2026-11-22", "2026-11-16/2026-11-22 2026-11-30/2026-12-06 2026-12-14/2026-12-20"},
		{"FREQ=MONTHLY", "2023-12-31", "2023-12-01/2023-12-31 2024-01-01/2024-01-31 2024-02-01/2024-02-29"},
		{"FREQ=MONTHLY;INTERVAL=5", "2023-09-30", "2023-09-01/2023-09-30 2024-02-01/2024-02-29 2024-07-01/2024-07-31"},
		{"FREQ=MONTHLY;INTERVAL=12", "2023-12-31", "2023-12-01/2023-12-31 2024-12-01/2024-12-31 2025-12-01/2025-12-31"},
		{"FREQ=MONTHLY;INTERVAL=25", "2023-12-31", "2023-12-01/2023-12-31 2026-01-01/2026-01-31 2028-02-01/2028-02-29"},
		{"FREQ=YEARLY", "2024-02-29", "2024-01-01/2024-12-31 2025-01-01/2025-12-31 2026-01-01/2026-12-31"},
		{"FREQ=YEARLY;INTERVAL=999", "2024-12-31", "2024-01-01/2024-12-31 3023-01-01/3023-12-31 4022-01-01/4022-12-31"},
		// The end of the days.
		{"FREQ=DAILY", "9999-12-30", "9999-12-30/9999-12-30 9999-12-31/9999-12-31"},
		{"FREQ=DAILY;INTERVAL=2", "9999-12-29", "9999-12-29/9999-12-29 9999-12-31/9999-12-31"},
		{"FREQ=DAILY;INTERVAL=3", "9999-12-29", "9999-12-29/9999-12-29"},
		{"FREQ=WEEKLY", "9999-12-26", "9999-12-20/9999-12-26 9999-12-27/9999-12-31"},
		{"FREQ=WEEKLY", "9999-12-31", "9999-12-27/9999-12-31"},
		{"FREQ=WEEKLY;INTERVAL=2", "9999-12-19", "9999-12-13/9999-12-19 9999-12-27/9999-12-31"},
		{"FREQ=WEEKLY;INTERVAL=3", "9999-12-19", "9999-12-13/9999-12-19"},
		{"FREQ=MONTHLY", "9999-11-01", "9999-11-01/9999-11-30 9999-12-01/9999-12-31"},
		{"FREQ=MONTHLY;INTERVAL=12", "9998-12-31", "9998-12-01/9998-12-31 9999-12-01/9999-12-31"},
		{"FREQ=MONTHLY;INTERVAL=13", "9998-12-31", "9998-12-01/9998-12-31"},
		{"FREQ=YEARLY", "9998-12-31", "9998-01-01/9998-12-31 9999-01-01/9999-12-31"},
		{"FREQ=YEARLY;INTERVAL=999", "9999-01-01", "9999-01-01/9999-12-31"},
		// The lists, Count and Until have no say in the periods.
		{"FREQ=MONTHLY;COUNT=1;BYMONTH=2;BYMONTHDAY=30", "9999-11-16", "9999-11-01/9999-11-30 9999-12-01/9999-12-31"},
		{"FREQ=WEEKLY;UNTIL=00010101;BYDAY=MO", "9999-12-26", "9999-12-20/9999-12-26 9999-12-27/9999-12-31"},
	} {
		var list []string
		for _, s := range firstOf(expand.Periods(ruleOf(t, k.rule), day(t, k.start)), 3) {
			list = append(list, s.From.Text()+"/"+s.To.Text())
		}
		if got := strings.Join(list, " "); got != k.want {
			t.Errorf("Periods(%s, %s) = %s, want %s", k.rule, k.start, got, k.want)
		}
	}
}

// number: of the period that contains a day, so that the next period has the next number.
func number(f rule.Freq, d civil.Day) int {
	at := time.Date(1, 1, int(d), 0, 0, 0, 0, time.UTC)
	switch f {
	case rule.Weekly:
		return (int(d) - 1) / 7
	case rule.Monthly:
		return at.Year()*12 + int(at.Month())
	case rule.Yearly:
		return at.Year()
	}
	return int(d)
}

func TestPeriodsToTheEnd(t *testing.T) { // P5.1
	for _, f := range allFreqs {
		for _, interval := range []int{1, 2, 3, 7, 12, 13, 100, 999} {
			for _, start := range []civil.Day{1, 2, 7, 8, 31, 32, 365, 366, 700000, civil.Last - 400, civil.Last - 4, civil.Last} {
				if interval < 7 && start < 700000 {
					continue // a great many
				}
				n := number(f, start)
				for s := range expand.Periods(rule.Rule{Freq: f, Interval: interval}, start) {
					if number(f, s.From) != n || number(f, s.To) != n {
						t.Fatalf("periods %d, each %d, from %d: %v is not number %d", f, interval, start, s, n)
					}
					if s.From > civil.First && number(f, s.From-1) == n || s.To < civil.Last && number(f, s.To+1) == n {
						t.Fatalf("periods %d, each %d, from %d: %v is not whole", f, interval, start, s)
					}
					n += interval
				}
				if last := number(f, civil.Last); n <= last || n > last+interval {
					t.Errorf("periods %d, each %d, from %d: number %d is missing, or one too many", f, interval, start, n)
				}
			}
		}
	}
}

func TestInExamples(t *testing.T) { // P5.1
	const start = "2026-11-18" // a Wednesday
	for _, k := range []struct{ rule, in, want string }{
		// A day.
		{"FREQ=DAILY", "2026-11-16", "2026-11-16"},
		{"FREQ=DAILY;INTERVAL=5", "2026-11-16", "2026-11-16"},
		{"FREQ=DAILY;BYMONTH=11", "2026-11-16", "2026-11-16"},
		{"FREQ=DAILY;BYMONTH=10,12", "2026-11-16", ""},
		{"FREQ=DAILY;BYMONTHDAY=-15", "2026-11-16", "2026-11-16"},
		{"FREQ=DAILY;BYMONTHDAY=15,17", "2026-11-16", ""},
		{"FREQ=DAILY;BYDAY=MO", "2026-11-16", "2026-11-16"},
		{"FREQ=DAILY;BYDAY=TU,SU", "2026-11-16", ""},
		{"FREQ=DAILY;BYDAY=MO;BYSETPOS=-1", "2026-11-16", "2026-11-16"},
		{"FREQ=DAILY;BYDAY=MO;BYSETPOS=-2,2", "2026-11-16", ""},
		// A week: days before the start are days of it.
		{"FREQ=WEEKLY", "2026-11-16", "2026-11-18"},
		{"FREQ=WEEKLY", "2024-02-29", "2024-02-28"},
		{"FREQ=WEEKLY;BYMONTH=11", "2026-11-30", ""},
		{"FREQ=WEEKLY;BYMONTH=12", "2026-11-30", "2026-12-02"},
		{"FREQ=WEEKLY;BYDAY=MO,SU", "2026-11-18", "2026-11-16 2026-11-22"},
		{"FREQ=WEEKLY;BYMONTH=12;BYDAY=MO,TU,SU", "2026-11-30", "2026-12-01 2026-12-06"},
		{"FREQ=WEEKLY;BYDAY=MO,WE,SU;BYSETPOS=1", "2026-11-20", "2026-11-16"},
		{"FREQ=WEEKLY;BYDAY=MO,WE,SU;BYSETPOS=-1,2", "2026-11-20", "2026-11-18 2026-11-22"},
		{"FREQ=WEEKLY;BYDAY=MO,WE,SU;BYSETPOS=-4,4", "2026-11-20", ""},
		{"FREQ=WEEKLY;BYMONTH=12;BYDAY=MO,TU,SU;BYSETPOS=1", "2026-11-30", "2026-12-01"},
		{"FREQ=WEEKLY;BYMONTH=12;BYSETPOS=1", "2026-11-30", "2026-12-02"},
		{"FREQ=WEEKLY;BYDAY=FR,SA,SU", "9999-12-31", "9999-12-31"},
		{"FREQ=WEEKLY;BYDAY=WE,SA,SU;BYSETPOS=-1", "9999-12-31", "9999-12-29"},
		// A month.
		{"FREQ=MONTHLY", "2026-11-01", "2026-11-18"},
		{"FREQ=MONTHLY;BYMONTH=11", "2026-11-01", "2026-11-18"},
		{"FREQ=MONTHLY;BYMONTH=1,12", "2026-11-01", ""},
		{"FREQ=MONTHLY;BYMONTHDAY=-30,1,31", "2026-11-01", "2026-11-01"},
		{"FREQ=MONTHLY;BYMONTHDAY=-31,-30,-1,29,30,31", "2023-02-10", "2023-02-28"},
		{"FREQ=MONTHLY;BYMONTHDAY=-31,-29,-1", "2024-02-10", "2024-02-01 2024-02-29"},
		{"FREQ=MONTHLY;BYMONTHDAY=-31,-1,31", "2024-12-10", "2024-12-01 2024-12-31"},
		{"FREQ=MONTHLY;BYDAY=MO", "2026-11-01", "2026-11-02 2026-11-09 2026-11-16 2026-11-23 2026-11-30"},
		{"FREQ=MONTHLY;BYDAY=1MO,1SU", "2026-11-01", "2026-11-01 2026-11-02"},
		{"FREQ=MONTHLY;BYDAY=5MO,5TU,5SU", "2026-11-01", "2026-11-29 2026-11-30"},
		{"FREQ=MONTHLY;BYDAY=-5MO,-5TU,-5SU", "2026-11-01", "2026-11-01 2026-11-02"},
		{"FREQ=MONTHLY;BYDAY=-1MO,-1SA", "2026-11-01", "2026-11-28 2026-11-30"},
		{"FREQ=MONTHLY;BYDAY=-2TU,WE", "2026-11-01", "2026-11-04 2026-11-11 2026-11-17 2026-11-18 2026-11-25"},
		{"FREQ=MONTHLY;BYDAY=-5MO,1MO", "2026-11-01", "2026-11-02"},
		{"FREQ=MONTHLY;BYMONTHDAY=9,10;BYDAY=MO", "2026-11-01", "2026-11-09"},
		{"FREQ=MONTHLY;BYMONTHDAY=13;BYDAY=FR", "2026-11-01", "2026-11-13"},
		{"FREQ=MONTHLY;BYMONTHDAY=13;BYDAY=1FR", "2026-11-01", ""},
		{"FREQ=MONTHLY;BYMONTHDAY=13;BYDAY=FR", "2026-12-01", ""},
		{"FREQ=MONTHLY;BYMONTH=11;BYMONTHDAY=13;BYDAY=2FR", "2026-11-01", "2026-11-13"},
		{"FREQ=MONTHLY;BYMONTH=12;BYMONTHDAY=13;BYDAY=2FR", "2026-11-01", ""},
		{"FREQ=MONTHLY;BYDAY=MO,TU,WE,TH,FR;BYSETPOS=-1,1", "2026-11-01", "2026-11-02 2026-11-30"},
		{"FREQ=MONTHLY;BYDAY=MO,TU,WE,TH,FR;BYSETPOS=-21,21", "2026-11-01", "2026-11-02 2026-11-30"},
		{"FREQ=MONTHLY;BYDAY=MO,TU,WE,TH,FR;BYSETPOS=-22,22", "2026-11-01", ""},
		{"FREQ=MONTHLY;BYMONTHDAY=3,6,9;BYSETPOS=-2,2", "2026-11-01", "2026-11-06"},
		{"FREQ=MONTHLY;BYMONTHDAY=-1,1;BYSETPOS=1", "2026-11-01", "2026-11-01"},
		{"FREQ=MONTHLY;BYMONTH=11;BYSETPOS=-1,1", "2026-11-01", "2026-11-18"},
		{"FREQ=MONTHLY;BYMONTH=11;BYSETPOS=-2,2", "2026-11-01", ""},
		// A year: an nth weekday is counted in the year if there are no months, else in the month.
		{"FREQ=YEARLY", "2026-01-01", "2026-11-18"},
		{"FREQ=YEARLY;BYMONTH=2,11,12", "2026-01-01", "2026-02-18 2026-11-18 2026-12-18"},
		{"FREQ=YEARLY;BYMONTH=2", "2026-01-01", "2026-02-18"},
		{"FREQ=YEARLY;BYMONTHDAY=31", "2026-01-01", "2026-01-31 2026-03-31 2026-05-31 2026-07-31 2026-08-31 2026-10-31 2026-12-31"},
		{"FREQ=YEARLY;BYMONTHDAY=-31", "2026-01-01", "2026-01-01 2026-03-01 2026-05-01 2026-07-01 2026-08-01 2026-10-01 2026-12-01"},
		{"FREQ=YEARLY;BYMONTH=2,4;BYMONTHDAY=-1", "2026-01-01", "2026-02-28 2026-04-30"},
		{"FREQ=YEARLY;BYMONTH=2,4;BYMONTHDAY=-1", "2024-01-01", "2024-02-29 2024-04-30"},
		{"FREQ=YEARLY;BYDAY=1MO", "2026-01-01", "2026-01-05"},
		{"FREQ=YEARLY;BYDAY=-1TH,1TH", "2026-01-01", "2026-01-01 2026-12-31"},
		{"FREQ=YEARLY;BYDAY=20MO", "2026-01-01", "2026-05-18"},
		{"FREQ=YEARLY;BYDAY=-20MO", "2026-01-01", "2026-08-17"},
		{"FREQ=YEARLY;BYDAY=53TH,53FR", "2026-01-01", "2026-12-31"},
		{"FREQ=YEARLY;BYDAY=-53WE,-53TH", "2026-01-01", "2026-01-01"},
		{"FREQ=YEARLY;BYDAY=53MO,53TU", "2024-01-01", "2024-12-30 2024-12-31"},
		{"FREQ=YEARLY;BYDAY=-53MO,-53TU,-53SU", "2024-01-01", "2024-01-01 2024-01-02"},
		{"FREQ=YEARLY;BYDAY=9TH", "2024-01-01", "2024-02-29"},
		{"FREQ=YEARLY;BYMONTH=11;BYDAY=-1MO,1MO", "2026-01-01", "2026-11-02 2026-11-30"},
		{"FREQ=YEARLY;BYMONTH=1,2;BYDAY=5MO,5TH", "2026-01-01", "2026-01-29"},
		{"FREQ=YEARLY;BYMONTH=11;BYDAY=-6MO,6MO", "2026-01-01", ""},
		{"FREQ=YEARLY;BYMONTH=11;BYDAY=TH", "2026-01-01", "2026-11-05 2026-11-12 2026-11-19 2026-11-26"},
		{"FREQ=YEARLY;BYMONTHDAY=13;BYDAY=FR", "2026-01-01", "2026-02-13 2026-03-13 2026-11-13"},
		{"FREQ=YEARLY;BYMONTHDAY=13;BYDAY=2FR", "2026-01-01", ""},
		{"FREQ=YEARLY;BYMONTHDAY=13;BYDAY=7FR", "2026-01-01", "2026-02-13"},
		{"FREQ=YEARLY;BYMONTH=3;BYMONTHDAY=13;BYDAY=2FR", "2026-01-01", "2026-03-13"},
		{"FREQ=YEARLY;BYMONTH=11;BYDAY=TH;BYSETPOS=4", "2026-01-01", "2026-11-26"},
		{"FREQ=YEARLY;BYMONTH=1,12;BYDAY=TH;BYSETPOS=-10,-1,1,10", "2026-01-01", "2026-01-01 2026-12-31"},
		{"FREQ=YEARLY;BYMONTH=1,12;BYDAY=TH;BYSETPOS=-11,11", "2026-01-01", ""},
		{"FREQ=YEARLY;BYMONTH=1,5;BYSETPOS=2", "2026-01-01", "2026-05-18"},
		{"FREQ=YEARLY;BYDAY=MO,TU,WE,TH,FR,SA,SU;BYSETPOS=-365,-364,100,365", "2026-01-01", "2026-01-01 2026-01-02 2026-04-10 2026-12-31"},
		{"FREQ=YEARLY;BYDAY=MO,TU,WE,TH,FR,SA,SU;BYSETPOS=-366,366", "2026-01-01", ""},
		{"FREQ=YEARLY;BYDAY=MO,TU,WE,TH,FR,SA,SU;BYSETPOS=-366,60,366", "2024-01-01", "2024-01-01 2024-02-29 2024-12-31"},
	} {
		r := ruleOf(t, k.rule)
		s := expand.Period(r.Freq, day(t, k.in))
		if got := texts(expand.In(r, day(t, start), s)); got != k.want {
			t.Errorf("In(%s, %s, that of %s) = %q, want %q", k.rule, start, k.in, got, k.want)
		}
	}
}

func TestInAgreesWithTheStart(t *testing.T) { // P5.1: where there are neither days nor weekdays
	for _, k := range []struct{ rule, start, in, want string }{
		{"FREQ=DAILY", "2026-11-16", "2001-02-03", "2001-02-03"},
		{"FREQ=DAILY;BYMONTH=2", "2026-11-16", "2001-02-03", "2001-02-03"},
		{"FREQ=WEEKLY", "2026-11-16", "2001-02-03", "2001-01-29"},
		{"FREQ=WEEKLY", "2026-11-22", "2001-02-03", "2001-02-04"},
		{"FREQ=WEEKLY", "2026-11-22", "9999-12-31", ""},
		{"FREQ=WEEKLY", "2026-11-20", "9999-12-31", "9999-12-31"},
		{"FREQ=WEEKLY;BYMONTH=2", "2026-11-16", "2001-02-03", ""},
		{"FREQ=MONTHLY", "2026-10-01", "2001-02-03", "2001-02-01"},
		{"FREQ=MONTHLY", "2026-10-28", "2001-02-03", "2001-02-28"},
		{"FREQ=MONTHLY", "2026-10-29", "2001-02-03", ""},
		{"FREQ=MONTHLY", "2026-10-29", "2004-02-03", "2004-02-29"},
		{"FREQ=MONTHLY", "2026-10-30", "2004-02-03", ""},
		{"FREQ=MONTHLY", "2026-10-30", "2004-04-03", "2004-04-30"},
		{"FREQ=MONTHLY", "2026-10-31", "2004-04-03", ""},
		{"FREQ=MONTHLY", "2026-10-31", "2004-05-03", "2004-05-31"},
		{"FREQ=MONTHLY;BYMONTH=5", "2026-10-31", "2004-05-03", "2004-05-31"},
		{"FREQ=MONTHLY;BYMONTH=4,6", "2026-10-31", "2004-05-03", ""},
		{"FREQ=YEARLY", "2026-10-31", "2004-05-03", "2004-10-31"},
		{"FREQ=YEARLY", "2024-02-29", "2004-05-03", "2004-02-29"},
		{"FREQ=YEARLY", "2024-02-29", "2003-05-03", ""},
		{"FREQ=YEARLY", "2024-02-29", "1900-05-03", ""},
		{"FREQ=YEARLY", "2024-02-29", "2000-05-03", "2000-02-29"},
		{"FREQ=YEARLY;BYMONTH=1,2,3", "2024-02-29", "2003-05-03", "2003-01-29 2003-03-29"},
		{"FREQ=YEARLY;BYMONTH=1,2,3", "2024-10-29", "2004-05-03", "2004-01-29 2004-02-29 2004-03-29"},
		{"FREQ=YEARLY;BYMONTH=2", "2024-10-30", "2004-05-03", ""},
		{"FREQ=YEARLY;BYMONTH=1,2,3,4,5,6,7,8,9,10,11,12", "2024-10-31", "2004-05-03", "2004-01-31 2004-03-31 2004-05-31 2004-07-31 2004-08-31 2004-10-31 2004-12-31"},
	} {
		r := ruleOf(t, k.rule)
		s := expand.Period(r.Freq, day(t, k.in))
		if got := texts(expand.In(r, day(t, k.start), s)); got != k.want {
			t.Errorf("In(%s, %s, that of %s) = %q, want %q", k.rule, k.start, k.in, got, k.want)
		}
	}
}

// yields: the first days, of which there are no more if all is true.
func yields(t *testing.T, text, start, want string, all bool) {
	t.Helper()
	most := len(strings.Fields(want))
	if all {
		most++
	}
	if got := texts(firstOf(expand.Days(ruleOf(t, text), day(t, start)), most)); got != want {
		t.Errorf("Days(%s, %s) = %q, want %q", text, start, got, want)
	}
}

// The examples of RFC 5545 that are rules of this kind; there, too, the start is one of the days.
func TestDaysExamplesOfTheStandard(t *testing.T) { // P5.2
	for _, k := range []struct{ rule, start, want string }{
		{"FREQ=DAILY;COUNT=10", "1997-09-02", "1997-09-02 1997-09-03 1997-09-04 1997-09-05 1997-09-06 1997-09-07 1997-09-08 1997-09-09 1997-09-10 1997-09-11"},
		{"FREQ=DAILY;INTERVAL=10;COUNT=5", "1997-09-02", "1997-09-02 1997-09-12 1997-09-22 1997-10-02 1997-10-12"},
		{"FREQ=WEEKLY;COUNT=10", "1997-09-02", "1997-09-02 1997-09-09 1997-09-16 1997-09-23 1997-09-30 1997-10-07 1997-10-14 1997-10-21 1997-10-28 1997-11-04"},
		{"FREQ=WEEKLY;COUNT=10;BYDAY=TU,TH", "1997-09-02", "1997-09-02 1997-09-04 1997-09-09 1997-09-11 1997-09-16 1997-09-18 1997-09-23 1997-09-25 1997-09-30 1997-10-02"},
		{"FREQ=WEEKLY;INTERVAL=2;UNTIL=19971223;BYDAY=MO,WE,FR", "1997-09-01", "1997-09-01 1997-09-03 1997-09-05 1997-09-15 1997-09-17 1997-09-19 1997-09-29 1997-10-01 1997-10-03 1997-10-13 1997-10-15 1997-10-17 1997-10-27 1997-10-29 1997-10-31 1997-11-10 1997-11-12 1997-11-14 1997-11-24 1997-11-26 1997-11-28 1997-12-08 1997-12-10 1997-12-12 1997-12-22"},
		{"FREQ=WEEKLY;INTERVAL=2;COUNT=8;BYDAY=TU,TH", "1997-09-02", "1997-09-02 1997-09-04 1997-09-16 1997-09-18 1997-09-30 1997-10-02 1997-10-14 1997-10-16"},
		{"FREQ=WEEKLY;INTERVAL=2;COUNT=4;BYDAY=TU,SU", "1997-08-05", "1997-08-05 1997-08-10 1997-08-19 1997-08-24"},
		{"FREQ=MONTHLY;COUNT=10;BYDAY=1FR", "1997-09-05", "1997-09-05 1997-10-03 1997-11-07 1997-12-05 1998-01-02 1998-02-06 1998-03-06 1998-04-03 1998-05-01 1998-06-05"},
		{"FREQ=MONTHLY;UNTIL=19971224;BYDAY=1FR", "1997-09-05", "1997-09-05 1997-10-03 1997-11-07 1997-12-05"},
		{"FREQ=MONTHLY;INTERVAL=2;COUNT=10;BYDAY=-1SU,1SU", "1997-09-07", "1997-09-07 1997-09-28 1997-11-02 1997-11-30 1998-01-04 1998-01-25 1998-03-01 1998-03-29 1998-05-03 1998-05-31"},
		{"FREQ=MONTHLY;COUNT=6;BYDAY=-2MO", "1997-09-22", "1997-09-22 1997-10-20 1997-11-17 1997-12-22 1998-01-19 1998-02-16"},
		{"FREQ=MONTHLY;COUNT=6;BYMONTHDAY=-3", "1997-09-28", "1997-09-28 1997-10-29 1997-11-28 1997-12-29 1998-01-29 1998-02-26"},
		{"FREQ=MONTHLY;COUNT=10;BYMONTHDAY=2,15", "1997-09-02", "1997-09-02 1997-09-15 1997-10-02 1997-10-15 1997-11-02 1997-11-15 1997-12-02 1997-12-15 1998-01-02 1998-01-15"},
		{"FREQ=MONTHLY;COUNT=10;BYMONTHDAY=-1,1", "1997-09-30", "1997-09-30 1997-10-01 1997-10-31 1997-11-01 1997-11-30 1997-12-01 1997-12-31 1998-01-01 1998-01-31 1998-02-01"},
		{"FREQ=MONTHLY;INTERVAL=18;COUNT=10;BYMONTHDAY=10,11,12,13,14,15", "1997-09-10", "1997-09-10 1997-09-11 1997-09-12 1997-09-13 1997-09-14 1997-09-15 1999-03-10 1999-03-11 1999-03-12 1999-03-13"},
		{"FREQ=MONTHLY;INTERVAL=2;COUNT=18;BYDAY=TU", "1997-09-02", "1997-09-02 1997-09-09 1997-09-16 1997-09-23 1997-09-30 1997-11-04 1997-11-11 1997-11-18 1997-11-25 1998-01-06 1998-01-13 1998-01-20 1998-01-27 1998-03-03 1998-03-10 1998-03-17 1998-03-24 1998-03-31"},
		{"FREQ=YEARLY;COUNT=10;BYMONTH=6,7", "1997-06-10", "1997-06-10 1997-07-10 1998-06-10 1998-07-10 1999-06-10 1999-07-10 2000-06-10 2000-07-10 2001-06-10 2001-07-10"},
		{"FREQ=YEARLY;INTERVAL=2;COUNT=10;BYMONTH=1,2,3", "1997-03-10", "1997-03-10 1999-01-10 1999-02-10 1999-03-10 2001-01-10 2001-02-10 2001-03-10 2003-01-10 2003-02-10 2003-03-10"},
		{"FREQ=YEARLY;COUNT=3;BYDAY=20MO", "1997-05-19", "1997-05-19 1998-05-18 1999-05-17"},
		{"FREQ=YEARLY;COUNT=11;BYMONTH=3;BYDAY=TH", "1997-03-13", "1997-03-13 1997-03-20 1997-03-27 1998-03-05 1998-03-12 1998-03-19 1998-03-26 1999-03-04 1999-03-11 1999-03-18 1999-03-25"},
		{"FREQ=YEARLY;COUNT=13;BYMONTH=6,7,8;BYDAY=TH", "1997-06-05", "1997-06-05 1997-06-12 1997-06-19 1997-06-26 1997-07-03 1997-07-10 1997-07-17 1997-07-24 1997-07-31 1997-08-07 1997-08-14 1997-08-21 1997-08-28"},
		{"FREQ=MONTHLY;COUNT=5;BYMONTHDAY=13;BYDAY=FR", "1997-09-02", "1998-02-13 1998-03-13 1998-11-13 1999-08-13 2000-10-13"},
		{"FREQ=MONTHLY;COUNT=10;BYMONTHDAY=7,8,9,10,11,12,13;BYDAY=SA", "1997-09-13", "1997-09-13 1997-10-11 1997-11-08 1997-12-13 1998-01-10 1998-02-07 1998-03-07 1998-04-11 1998-05-09 1998-06-13"},
		{"FREQ=YEARLY;INTERVAL=4;COUNT=3;BYMONTH=11;BYMONTHDAY=2,3,4,5,6,7,8;BYDAY=TU", "1996-11-05", "1996-11-05 2000-11-07 2004-11-02"},
		{"FREQ=MONTHLY;COUNT=3;BYDAY=TU,WE,TH;BYSETPOS=3", "1997-09-04", "1997-09-04 1997-10-07 1997-11-06"},
		{"FREQ=MONTHLY;COUNT=7;BYDAY=MO,TU,WE,TH,FR;BYSETPOS=-2", "1997-09-29", "1997-09-29 1997-10-30 1997-11-27 1997-12-30 1998-01-29 1998-02-26 1998-03-30"},
		{"FREQ=MONTHLY;COUNT=5;BYMONTHDAY=15,30", "2007-01-15", "2007-01-15 2007-01-30 2007-02-15 2007-03-15 2007-03-30"},
	} {
		yields(t, k.rule, k.start, k.want, true)
	}
}

// The standard has one rule by days and the same by years: every day in January for three years.
func TestDaysOfThreeJanuaries(t *testing.T) { // P5.2
	var want []string
	for _, y := range []int{1998, 1999, 2000} {
		for d := 1; d <= 31; d++ {
			n, _ := civil.Of(y, 1, d)
			want = append(want, n.Text())
		}
	}
	yields(t, "FREQ=DAILY;UNTIL=20000131;BYMONTH=1", "1998-01-01", strings.Join(want, " "), true)
	yields(t, "FREQ=YEARLY;UNTIL=20000131;BYMONTH=1;BYDAY=MO,TU,WE,TH,FR,SA,SU", "1998-01-01", strings.Join(want, " "), true)
}

func TestDaysExamples(t *testing.T) { // P5.2: without end
	for _, k := range []struct{ rule, start, want string }{
		{"FREQ=MONTHLY;BYMONTHDAY=-1", "2024-01-01", "2024-01-31 2024-02-29 2024-03-31 2024-04-30"},
		{"FREQ=WEEKLY;INTERVAL=2;BYDAY=TU", "2026-11-16", "2026-11-17 2026-12-01 2026-12-15"},
		{"FREQ=WEEKLY;INTERVAL=2;BYDAY=MO,TU", "2026-11-17", "2026-11-17 2026-11-30 2026-12-01 2026-12-14"},
		{"FREQ=WEEKLY;INTERVAL=2;BYDAY=MO", "2026-11-17", "2026-11-30 2026-12-14"},
		// Months without the 29th, 30th, 31st, years without 29 February: a period without days is still one.
		{"FREQ=MONTHLY", "2023-01-29", "2023-01-29 2023-03-29 2023-04-29"},
		{"FREQ=MONTHLY", "2024-01-29", "2024-01-29 2024-02-29 2024-03-29"},
		{"FREQ=MONTHLY", "2024-01-30", "2024-01-30 2024-03-30 2024-04-30"},
		{"FREQ=MONTHLY", "2024-01-31", "2024-01-31 2024-03-31 2024-05-31 2024-07-31 2024-08-31"},
		{"FREQ=MONTHLY;INTERVAL=3", "2024-01-31", "2024-01-31 2024-07-31 2024-10-31 2025-01-31"},
		{"FREQ=MONTHLY;INTERVAL=12", "2024-02-29", "2024-02-29 2028-02-29 2032-02-29"},
		{"FREQ=MONTHLY;BYMONTHDAY=-31,31", "2024-01-15", "2024-01-31 2024-03-01 2024-03-31"},
		{"FREQ=MONTHLY;BYMONTHDAY=-30", "2024-01-15", "2024-03-02 2024-04-01 2024-05-02"},
		{"FREQ=YEARLY", "2096-02-29", "2096-02-29 2104-02-29 2108-02-29"},
		{"FREQ=YEARLY", "1996-02-29", "1996-02-29 2000-02-29 2004-02-29"},
		{"FREQ=YEARLY;INTERVAL=3", "2024-02-29", "2024-02-29 2036-02-29 2048-02-29"},
		{"FREQ=YEARLY;INTERVAL=100", "2000-02-29", "2000-02-29 2400-02-29 2800-02-29"},
		{"FREQ=YEARLY;BYMONTH=2;BYMONTHDAY=29", "2025-06-01", "2028-02-29 2032-02-29"},
		{"FREQ=YEARLY;BYMONTH=2,3", "2025-01-30", "2025-03-30 2026-03-30"},
		{"FREQ=DAILY;BYMONTHDAY=29", "2023-01-30", "2023-03-29 2023-04-29"},
		{"FREQ=DAILY;INTERVAL=2;BYDAY=MO", "2026-11-17", "2026-11-23 2026-12-07"},
		{"FREQ=MONTHLY;BYDAY=5MO", "2026-11-16", "2026-11-30 2027-03-29 2027-05-31"},
		{"FREQ=MONTHLY;BYDAY=-5MO", "2026-11-16", "2027-03-01 2027-05-03"},
		{"FREQ=YEARLY;BYDAY=53SU", "2026-11-16", "2028-12-31 2034-12-31 2040-12-30"},
		{"FREQ=YEARLY;BYDAY=-53SU", "2026-11-16", "2028-01-02 2034-01-01 2040-01-01"},
		{"FREQ=YEARLY;BYDAY=MO,TU,WE,TH,FR,SA,SU;BYSETPOS=366", "2026-11-16", "2028-12-31 2032-12-31"},
		// Days ahead of the start, in the first period: they have positions, and are no days from the start on.
		{"FREQ=WEEKLY;BYDAY=MO,WE,FR", "2026-11-18", "2026-11-18 2026-11-20 2026-11-23"},
		{"FREQ=WEEKLY;BYDAY=MO,WE,FR;BYSETPOS=1", "2026-11-18", "2026-11-23 2026-11-30"},
		{"FREQ=WEEKLY;BYDAY=MO,WE,FR;BYSETPOS=2", "2026-11-18", "2026-11-18 2026-11-25"},
		{"FREQ=WEEKLY;BYDAY=MO,WE,FR;BYSETPOS=-3,-1", "2026-11-18", "2026-11-20 2026-11-23 2026-11-27"},
		{"FREQ=MONTHLY;BYMONTHDAY=10,20", "2026-11-16", "2026-11-20 2026-12-10"},
		{"FREQ=MONTHLY;BYMONTHDAY=10,20;BYSETPOS=1", "2026-11-16", "2026-12-10 2027-01-10"},
		{"FREQ=MONTHLY;INTERVAL=2;BYMONTHDAY=10", "2026-11-16", "2027-01-10 2027-03-10"},
		{"FREQ=MONTHLY;BYDAY=MO,TU,WE,TH,FR;BYSETPOS=-1,1", "2026-11-16", "2026-11-30 2026-12-01 2026-12-31"},
		{"FREQ=YEARLY;BYMONTH=1,12;BYMONTHDAY=5", "2026-11-16", "2026-12-05 2027-01-05"},
		{"FREQ=YEARLY;INTERVAL=2;BYMONTH=1", "2026-11-16", "2028-01-16 2030-01-16"},
		{"FREQ=YEARLY;BYMONTH=1,12;BYMONTHDAY=5;BYSETPOS=2", "2026-11-16", "2026-12-05 2027-12-05"},
		// The start is a day only if it is permitted.
		{"FREQ=DAILY;BYDAY=TU", "2026-11-16", "2026-11-17 2026-11-24"},
		{"FREQ=DAILY;BYMONTH=12", "2026-11-16", "2026-12-01 2026-12-02"},
		{"FREQ=DAILY;INTERVAL=2;BYMONTH=12", "2026-11-16", "2026-12-02 2026-12-04"},
		{"FREQ=MONTHLY;BYMONTH=1,3", "2026-11-16", "2027-01-16 2027-03-16 2028-01-16"},
		{"FREQ=WEEKLY;BYMONTH=1", "2026-11-16", "2027-01-04 2027-01-11 2027-01-18 2027-01-25 2028-01-03"},
	} {
		yields(t, k.rule, k.start, k.want, false)
	}
}

func TestDaysToTheLastOne(t *testing.T) { // P5.2
	for _, k := range []struct{ rule, start, want string }{
		{"FREQ=DAILY", "9999-12-30", "9999-12-30 9999-12-31"},
		{"FREQ=DAILY", "9999-12-31", "9999-12-31"},
		{"FREQ=DAILY;INTERVAL=999", "9999-12-31", "9999-12-31"},
		{"FREQ=WEEKLY", "9999-12-24", "9999-12-24 9999-12-31"},
		{"FREQ=WEEKLY", "9999-12-25", "9999-12-25"},
		{"FREQ=WEEKLY;BYDAY=TH,FR,SA", "9999-12-24", "9999-12-24 9999-12-25 9999-12-30 9999-12-31"},
		{"FREQ=WEEKLY;BYDAY=SA,SU", "9999-12-27", ""},
		{"FREQ=WEEKLY;BYDAY=MO,TU,WE,TH,FR,SA,SU;BYSETPOS=-1", "9999-12-20", "9999-12-26 9999-12-31"},
		{"FREQ=WEEKLY;BYDAY=MO,TU,WE,TH,FR,SA,SU;BYSETPOS=6", "9999-12-20", "9999-12-25"},
		{"FREQ=MONTHLY", "9999-10-31", "9999-10-31 9999-12-31"},
		{"FREQ=MONTHLY", "9999-10-30", "9999-10-30 9999-11-30 9999-12-30"},
		{"FREQ=MONTHLY;BYMONTHDAY=1", "9999-12-02", ""},
		{"FREQ=YEARLY", "9998-12-31", "9998-12-31 9999-12-31"},
		{"FREQ=YEARLY", "9996-02-29", "9996-02-29"},
		{"FREQ=YEARLY;BYDAY=-1FR", "9998-12-31", "9999-12-31"},
		{"FREQ=YEARLY;COUNT=3", "9998-06-01", "9998-06-01 9999-06-01"},
		{"FREQ=DAILY;UNTIL=99991231", "9999-12-30", "9999-12-30 9999-12-31"},
		// The first ones.
		{"FREQ=DAILY;COUNT=2", "0001-01-01", "0001-01-01 0001-01-02"},
		{"FREQ=WEEKLY;COUNT=2;BYDAY=MO", "0001-01-01", "0001-01-01 0001-01-08"},
		{"FREQ=MONTHLY;COUNT=2;BYMONTHDAY=-31", "0001-01-01", "0001-01-01 0001-03-01"},
		{"FREQ=YEARLY;COUNT=2;BYDAY=1MO", "0001-01-01", "0001-01-01 0002-01-07"},
	} {
		yields(t, k.rule, k.start, k.want, true)
	}
}

func TestCountAndUntil(t *testing.T) { // P5.2
	for _, k := range []struct{ rule, start, want string }{
		{"FREQ=DAILY;COUNT=1", "2026-11-16", "2026-11-16"},
		{"FREQ=DAILY;COUNT=1;BYDAY=SU", "2026-11-16", "2026-11-22"},
		// Within a period, at its end, at the next one's beginning.
		{"FREQ=WEEKLY;COUNT=1;BYDAY=MO,TU,WE", "2026-11-16", "2026-11-16"},
		{"FREQ=WEEKLY;COUNT=2;BYDAY=MO,TU,WE", "2026-11-16", "2026-11-16 2026-11-17"},
		{"FREQ=WEEKLY;COUNT=3;BYDAY=MO,TU,WE", "2026-11-16", "2026-11-16 2026-11-17 2026-11-18"},
		{"FREQ=WEEKLY;COUNT=4;BYDAY=MO,TU,WE", "2026-11-16", "2026-11-16 2026-11-17 2026-11-18 2026-11-23"},
		// Days ahead of the start do not count.
		{"FREQ=WEEKLY;COUNT=2;BYDAY=MO,TU,WE", "2026-11-18", "2026-11-18 2026-11-23"},
		{"FREQ=MONTHLY;COUNT=2;BYDAY=MO", "2026-11-29", "2026-11-30 2026-12-07"},
		{"FREQ=YEARLY;COUNT=3;BYMONTH=3,12", "2026-11-16", "2026-12-16 2027-03-16 2027-12-16"},
		// Until is included.
		{"FREQ=DAILY;UNTIL=20261118", "2026-11-16", "2026-11-16 2026-11-17 2026-11-18"},
		{"FREQ=DAILY;UNTIL=20261116", "2026-11-16", "2026-11-16"},
		{"FREQ=DAILY;UNTIL=20261115", "2026-11-16", ""},
		{"FREQ=DAILY;UNTIL=00010101", "2026-11-16", ""},
		{"FREQ=DAILY;UNTIL=00010101", "0001-01-01", "0001-01-01"},
		{"FREQ=WEEKLY;UNTIL=20261117;BYDAY=MO,TU,WE", "2026-11-16", "2026-11-16 2026-11-17"},
		{"FREQ=WEEKLY;UNTIL=20261116;BYDAY=MO,TU,WE", "2026-11-16", "2026-11-16"},
		{"FREQ=WEEKLY;UNTIL=20261122;BYDAY=MO,TU,WE", "2026-11-16", "2026-11-16 2026-11-17 2026-11-18"},
		{"FREQ=WEEKLY;UNTIL=20261123;BYDAY=MO,TU,WE", "2026-11-16", "2026-11-16 2026-11-17 2026-11-18 2026-11-23"},
		// Until ahead of the start, in the start's period.
		{"FREQ=WEEKLY;UNTIL=20261117;BYDAY=MO,TU,WE", "2026-11-18", ""},
		{"FREQ=MONTHLY;UNTIL=20261231;BYMONTHDAY=-1", "2026-11-16", "2026-11-30 2026-12-31"},
		{"FREQ=MONTHLY;UNTIL=20261230;BYMONTHDAY=-1", "2026-11-16", "2026-11-30"},
		{"FREQ=YEARLY;UNTIL=20281231;BYDAY=53SU", "2026-11-16", "2028-12-31"},
		{"FREQ=YEARLY;UNTIL=20281230;BYDAY=53SU", "2026-11-16", ""},
		{"FREQ=WEEKLY;INTERVAL=2;UNTIL=20261231;BYDAY=WE;BYSETPOS=1", "2026-11-16", "2026-11-18 2026-12-02 2026-12-16 2026-12-30"},
	} {
		yields(t, k.rule, k.start, k.want, true)
	}
}

func TestGreatestCount(t *testing.T) { // P5.2
	for _, f := range allFreqs {
		for _, count := range []int{1, 2, 999, 9998, 9999} {
			n := 0
			for range expand.Days(rule.Rule{Freq: f, Interval: 1, Count: count}, civil.First) {
				n++
			}
			if n != count {
				t.Errorf("period %d: %d days, want %d", f, n, count)
			}
		}
	}
}

func TestRulesWithoutDays(t *testing.T) { // P5.2
	for _, text := range []string{
		"FREQ=DAILY;BYMONTH=2;BYMONTHDAY=30,31", "FREQ=DAILY;BYMONTH=4;BYMONTHDAY=-31", "FREQ=DAILY;BYDAY=MO;BYSETPOS=-2,2", "FREQ=DAILY;COUNT=5;BYMONTH=1;BYSETPOS=366",
		"FREQ=DAILY;INTERVAL=7;BYDAY=MO", "FREQ=WEEKLY;BYDAY=MO,TU;BYSETPOS=-3,3", "FREQ=WEEKLY;BYMONTH=1;BYSETPOS=2",
		"FREQ=MONTHLY;BYMONTH=2;BYMONTHDAY=30,31", "FREQ=MONTHLY;BYMONTHDAY=1;BYDAY=2MO", "FREQ=MONTHLY;BYMONTHDAY=1,2,3;BYSETPOS=-4,4", "FREQ=MONTHLY;INTERVAL=12;BYMONTH=11",
		"FREQ=YEARLY;BYMONTH=2;BYMONTHDAY=30", "FREQ=YEARLY;BYMONTH=4,6,9,11;BYMONTHDAY=31", "FREQ=YEARLY;BYMONTH=1;BYDAY=-6MO,6MO", "FREQ=YEARLY;BYMONTHDAY=31;BYDAY=1MO,2TU,3WE", "FREQ=YEARLY;BYDAY=1MO;BYSETPOS=2",
	} {
		for _, start := range []string{"0001-01-02", "9998-12-05"} {
			yields(t, text, start, "", true)
		}
	}
	// The start agrees with no day of the months.
	yields(t, "FREQ=YEARLY;BYMONTH=2", "2024-01-30", "", true)
	yields(t, "FREQ=MONTHLY;BYMONTH=4", "2024-01-31", "", true)
	yields(t, "FREQ=YEARLY;INTERVAL=400", "1900-12-31", "1900-12-31 2300-12-31", false)
	yields(t, "FREQ=MONTHLY;INTERVAL=12;BYMONTH=2", "2023-04-01", "", true)
}

func TestAllDaysThereAre(t *testing.T) { // P5.2
	for _, k := range []struct {
		rule, start string
		count       int
		last        string
	}{
		{"FREQ=DAILY", "0001-01-01", int(civil.Last), "9999-12-31"},
		{"FREQ=DAILY;INTERVAL=2", "0001-01-01", int(civil.Last+1) / 2, "9999-12-31"},
		{"FREQ=WEEKLY", "0001-01-01", 521723, "9999-12-27"},
		{"FREQ=WEEKLY", "0001-01-06", 521722, "9999-12-25"},
		{"FREQ=WEEKLY;BYDAY=MO,TU,WE,TH,FR,SA,SU", "0001-01-01", int(civil.Last), "9999-12-31"},
		{"FREQ=MONTHLY", "0001-01-01", 12 * 9999, "9999-12-01"},
		{"FREQ=MONTHLY", "0001-01-31", 7 * 9999, "9999-12-31"},
		{"FREQ=MONTHLY;BYMONTHDAY=-1", "0001-01-31", 12 * 9999, "9999-12-31"},
		{"FREQ=MONTHLY;BYDAY=MO,TU,WE,TH,FR,SA,SU", "0001-01-01", int(civil.Last), "9999-12-31"},
		{"FREQ=YEARLY", "0001-12-31", 9999, "9999-12-31"},
		{"FREQ=YEARLY", "0004-02-29", 2424, "9996-02-29"},
		{"FREQ=YEARLY;BYDAY=MO,TU,WE,TH,FR,SA,SU", "0001-01-01", int(civil.Last), "9999-12-31"},
		{"FREQ=YEARLY;BYDAY=MO,TU,WE,TH,FR,SA,SU;BYSETPOS=-366", "0001-01-01", 2424, "9996-01-01"},
	} {
		n, previous := 0, civil.Day(0)
		for d := range expand.Days(ruleOf(t, k.rule), day(t, k.start)) {
			if d <= previous {
				t.Fatalf("Days(%s, %s): %d after %d", k.rule, k.start, d, previous)
			}
			n, previous = n+1, d
		}
		if n != k.count || previous.Text() != k.last {
			t.Errorf("Days(%s, %s): %d days to %s, want %d to %s", k.rule, k.start, n, previous.Text(), k.count, k.last)
		}
	}
}

// known is what the library's calendar, package time, tells of a day.
type known struct {
	day                                     civil.Day
	year, month, monthDay, length, weekday  int
	nthInMonth, fromEnd, nthInYear, yearEnd int
}

func knownOf(d civil.Day) known {
	at := time.Date(1, 1, int(d), 0, 0, 0, 0, time.UTC)
	month, year := at.Month(), at.Year()
	k := known{day: d, year: year, month: int(month), monthDay: at.Day(), weekday: (int(at.Weekday()) + 6) % 7}
	k.length = time.Date(year, month+1, 0, 0, 0, 0, 0, time.UTC).Day()
	// How often the weekday comes: by steps of a week, not by a division.
	for b := at; b.Month() == month && b.Year() == year; b = b.AddDate(0, 0, -7) {
		k.nthInMonth++
	}
	for b := at; b.Month() == month && b.Year() == year; b = b.AddDate(0, 0, 7) {
		k.fromEnd++
	}
	for b := at; b.Year() == year; b = b.AddDate(0, 0, -7) {
		k.nthInYear++
	}
	for b := at; b.Year() == year; b = b.AddDate(0, 0, 7) {
		k.yearEnd++
	}
	return k
}

// lets: do the lists permit the day? The chapter's words, one after the other.
func lets(r rule.Rule, start, k known) bool {
	if len(r.Months) > 0 && !slices.Contains(r.Months, k.month) {
		return false
	}
	if len(r.Days) > 0 && !slices.ContainsFunc(r.Days, func(n int) bool { return n == k.monthDay || n < 0 && k.length+1+n == k.monthDay }) {
		return false
	}
	if len(r.Weekdays) > 0 {
		nth, end := k.nthInMonth, k.fromEnd
		if r.Freq == rule.Yearly && len(r.Months) == 0 {
			nth, end = k.nthInYear, k.yearEnd
		}
		if !slices.ContainsFunc(r.Weekdays, func(w rule.Nth) bool {
			return w.Day == k.weekday && (w.N == 0 || w.N == nth || w.N == -end)
		}) {
			return false
		}
	}
	if len(r.Days) > 0 || len(r.Weekdays) > 0 {
		return true
	}
	switch {
	case r.Freq == rule.Weekly:
		return k.weekday == start.weekday
	case r.Freq == rule.Monthly, r.Freq == rule.Yearly && len(r.Months) > 0:
		return k.monthDay == start.monthDay
	case r.Freq == rule.Yearly:
		return k.monthDay == start.monthDay && k.month == start.month
	}
	return true
}

// listed: the rule's days of a period, all of whose days are given.
func listed(r rule.Rule, start known, period []known) (days []civil.Day) {
	var all []civil.Day
	for _, k := range period {
		if lets(r, start, k) {
			all = append(all, k.day)
		}
	}
	if len(r.Pos) == 0 {
		return all
	}
	for _, p := range r.Pos {
		if p < 0 {
			p += len(all) + 1
		}
		if 1 <= p && p <= len(all) {
			days = append(days, all[p-1])
		}
	}
	slices.Sort(days)
	return slices.Compact(days)
}

// calendar is the days of some years, by the numbers of their periods of each kind.
type calendar struct {
	end    civil.Day // to which all days are in whole periods
	groups [rule.Freqs]map[int][]known
}

// years: the calendar of the years, and of the weeks that they begin and end in.
func years(first, last int) (c calendar) {
	from, _ := civil.Of(first, 1, 1)
	to, _ := civil.Of(last, 12, 31)
	c.end = to - 7
	if to == civil.Last {
		c.end = to
	}
	for f := range c.groups {
		c.groups[f] = map[int][]known{}
	}
	for d := max(from-7, civil.First); d <= min(to+7, civil.Last); d++ {
		k := knownOf(d)
		for f, group := range c.groups {
			n := number(rule.Freq(f), d)
			group[n] = append(group[n], k)
		}
	}
	return c
}

// agrees: are In and Days right, from a start in the calendar's years, as far as these go?
func agrees(t *testing.T, r rule.Rule, start civil.Day, c calendar) {
	t.Helper()
	if e := r.Check(); e != api.OK {
		t.Fatalf("%+v: the test's own fault: error %d", r, e)
	}
	from, group := knownOf(start), c.groups[r.Freq]
	var want []civil.Day
	for n := number(r.Freq, start); group[n] != nil && group[n][0].day <= c.end; n += r.Interval {
		period := group[n]
		s := expand.Span{From: period[0].day, To: period[len(period)-1].day}
		days := listed(r, from, period)
		if got := expand.In(r, start, s); !slices.Equal(got, days) {
			t.Fatalf("In(%+v, %s, %s to %s) = %s, want %s", r, start.Text(), s.From.Text(), s.To.Text(), texts(got), texts(days))
		}
		want = append(want, days...)
	}
	want = slices.DeleteFunc(want, func(d civil.Day) bool { return d < start })
	if r.Count > 0 && len(want) > r.Count {
		want = want[:r.Count]
	}
	want = slices.DeleteFunc(want, func(d civil.Day) bool { return d > c.end || r.Until != 0 && d > r.Until })
	var got []civil.Day
	for d := range expand.Days(r, start) {
		if d > c.end {
			break
		}
		got = append(got, d)
	}
	if !slices.Equal(got, want) {
		t.Fatalf("Days(%+v, %s) = %s, want %s", r, start.Text(), texts(got), texts(want))
	}
}

func randomList(x *rand.Rand, most int, element func() int) (list []int) {
	for range x.Intn(most + 1) {
		list = append(list, element())
	}
	slices.Sort(list)
	return slices.Compact(list)
}

// signed: a number from 1 to most, or below 0.
func signed(x *rand.Rand, most int) int {
	return (1 + x.Intn(most)) * (1 - 2*x.Intn(2))
}

// randomRule: a valid one.
func randomRule(x *rand.Rand, f rule.Freq) rule.Rule {
	r := rule.Rule{Freq: f, Interval: 1 + x.Intn(4)}
	if x.Intn(3) == 0 {
		r.Months = randomList(x, 4, func() int { return 1 + x.Intn(12) })
	}
	if x.Intn(2) == 0 && f != rule.Weekly {
		r.Days = randomList(x, 8, func() int { return signed(x, 31) })
	}
	if x.Intn(3) > 0 {
		most := []int{0, 0, 5, 53}[f] * x.Intn(2)
		if most == 53 && len(r.Months) > 0 {
			most = 6 // most of the others are in no month
		}
		for range x.Intn(7) {
			r.Weekdays = append(r.Weekdays, rule.Nth{N: x.Intn(2*most+1) - most, Day: x.Intn(7)})
		}
		slices.SortFunc(r.Weekdays, rule.Order)
		r.Weekdays = slices.Compact(r.Weekdays)
	}
	if x.Intn(3) == 0 && r.Lists() {
		most := []int{2, 8, 32, 366}[f]
		if x.Intn(2) == 0 {
			most = min(most, 5)
		}
		r.Pos = randomList(x, 5, func() int { return signed(x, most) })
	}
	return r
}

func TestAnyRules(t *testing.T) { // P5.1, P5.2
	x := rand.New(rand.NewSource(5))
	for _, first := range []int{1, 99, 1899, 1999, 2022, 2023, 2024, 2025, 2026, 9994, 9995} {
		last := min(first+5, 9999)
		c := years(first, last)
		lowest, _ := civil.Of(first, 1, 1)
		for range 500 {
			r := randomRule(x, allFreqs[x.Intn(4)])
			start := lowest + civil.Day(x.Intn(800))
			// A rule with a Count and too few days goes through all days there are: only now and then, unless these are few.
			if x.Intn(40) == 0 || first > 9990 && x.Intn(2) == 0 {
				r.Count = 1 + x.Intn(30)
			} else {
				r.Until = min(max(start+civil.Day(x.Intn(2500))-100, civil.First), civil.Last)
			}
			agrees(t, r, start, c)
		}
	}
}

func TestAnyListsWithoutEnd(t *testing.T) { // P5.2
	x := rand.New(rand.NewSource(6))
	c := years(9993, 9999)
	lowest, _ := civil.Of(9993, 1, 1)
	for range 2000 {
		agrees(t, randomRule(x, allFreqs[x.Intn(4)]), lowest+civil.Day(x.Intn(2556)), c)
	}
}

// Each number of a weekday and each position that there may be, in years of all kinds.
func TestEveryNthAndPosition(t *testing.T) { // P5.1
	for _, first := range []int{2000, 2023, 2024, 9998} {
		c := years(first, first+1)
		start, _ := civil.Of(first, 1, 1)
		for n := -53; n <= 53; n++ {
			r := rule.Rule{Freq: rule.Yearly, Interval: 1, Until: min(start+800, civil.Last)}
			for w := range 7 {
				r.Weekdays = append(r.Weekdays, rule.Nth{N: n, Day: w})
			}
			agrees(t, r, start, c)
			r.Months = []int{2, 3, 12}
			agrees(t, r, start, c)
			if -5 <= n && n <= 5 {
				r.Freq = rule.Monthly
				agrees(t, r, start, c)
			}
		}
		for p := 1; p <= 366; p++ {
			for _, f := range allFreqs {
				for _, pos := range []int{p, -p} {
					r := rule.Rule{Freq: f, Interval: 1, Until: start + 400, Pos: []int{pos}}
					for w := range 7 {
						r.Weekdays = append(r.Weekdays, rule.Nth{Day: w})
					}
					if f == rule.Yearly || p < 33 {
						agrees(t, r, start, c)
					}
				}
			}
		}
		for d := -31; d <= 31; d++ {
			for _, f := range []rule.Freq{rule.Daily, rule.Monthly, rule.Yearly} {
				if d != 0 {
					agrees(t, rule.Rule{Freq: f, Interval: 1, Until: min(start+800, civil.Last), Days: []int{d}}, start, c)
				}
			}
		}
	}
}

// stops: an iteration's first elements, and whether it went on after it was told to stop.
func stops[E any](seq iter.Seq[E], most int) (list []E, wentOn bool) {
	stopped := false
	seq(func(x E) bool {
		wentOn = wentOn || stopped
		list = append(list, x)
		stopped = len(list) >= most
		return !stopped
	})
	return list, wentOn
}

// repeats: the iteration, stopped at each of its first elements, and run again, also within itself.
func repeats[E comparable](t *testing.T, name string, seq iter.Seq[E]) {
	t.Helper()
	want := firstOf(seq, 40)
	for most := 1; most <= len(want); most++ {
		got, wentOn := stops(seq, most)
		if wentOn {
			t.Errorf("%s: goes on after element %d", name, most)
		}
		if !slices.Equal(got, want[:most]) {
			t.Errorf("%s: %v, stopped after %d: %v", name, want, most, got)
		}
	}
	if got := firstOf(seq, 40); !slices.Equal(got, want) {
		t.Errorf("%s: first %v, then %v", name, want, got)
	}
	var outer []E
	for x := range seq {
		if len(outer) == 5 {
			break
		}
		outer = append(outer, x)
		if inner := firstOf(seq, 5); !slices.Equal(inner, want[:min(5, len(want))]) {
			t.Errorf("%s: %v within itself", name, inner)
		}
	}
	if !slices.Equal(outer, want[:min(5, len(want))]) {
		t.Errorf("%s: %v around itself", name, outer)
	}
}

func TestStoppedAndRepeated(t *testing.T) { // P5.2: all iterations
	for _, text := range []string{
		"FREQ=DAILY", "FREQ=DAILY;INTERVAL=999", "FREQ=DAILY;COUNT=7", "FREQ=DAILY;UNTIL=20261120", "FREQ=DAILY;BYDAY=MO,TU",
		"FREQ=WEEKLY", "FREQ=WEEKLY;COUNT=3;BYDAY=MO,TU", "FREQ=WEEKLY;INTERVAL=5;BYDAY=MO,WE,SU;BYSETPOS=-1,1",
		"FREQ=MONTHLY", "FREQ=MONTHLY;UNTIL=20270131;BYMONTHDAY=-1,1", "FREQ=MONTHLY;BYDAY=-1FR,2MO",
		"FREQ=YEARLY", "FREQ=YEARLY;COUNT=9999;BYDAY=20MO", "FREQ=YEARLY;INTERVAL=999", "FREQ=YEARLY;BYMONTH=1,2;BYDAY=MO,TU,WE;BYSETPOS=-3,2",
	} {
		for _, start := range []string{"2026-11-16", "0001-01-01", "9999-10-30", "9999-12-31"} {
			r, from := ruleOf(t, text), day(t, start)
			repeats(t, "Periods "+text+" "+start, expand.Periods(r, from))
			repeats(t, "Days "+text+" "+start, expand.Days(r, from))
		}
	}
}

func TestSameRuleSameDays(t *testing.T) { // R6: one call after another
	r, start := ruleOf(t, "FREQ=MONTHLY;INTERVAL=2;BYDAY=-1FR,2MO"), day(t, "2026-11-16")
	other := expand.Days(ruleOf(t, "FREQ=DAILY"), start)
	want := firstOf(expand.Days(r, start), 20)
	firstOf(other, 7)
	if got := firstOf(expand.Days(r, start), 20); !slices.Equal(got, want) {
		t.Errorf("%v, then %v", want, got)
	}
}

// emptied: the rule with empty lists instead of nil ones.
func emptied(r rule.Rule) rule.Rule {
	for _, list := range []*[]int{&r.Months, &r.Days, &r.Pos} {
		if *list == nil {
			*list = make([]int, 0, 3)
		}
	}
	if r.Weekdays == nil {
		r.Weekdays = []rule.Nth{}
	}
	return r
}

func TestNilAndEmptyLists(t *testing.T) { // R4
	start := day(t, "2026-11-16")
	for _, f := range allFreqs {
		for _, r := range []rule.Rule{
			{Freq: f, Interval: 1}, {Freq: f, Interval: 1, Months: []int{2, 11}}, {Freq: f, Interval: 2, Weekdays: []rule.Nth{{Day: 0}, {Day: 3}}},
			{Freq: f, Interval: 1, Weekdays: []rule.Nth{{Day: 0}}, Pos: []int{1}}, {Freq: rule.Yearly, Interval: 1, Weekdays: []rule.Nth{{N: 20, Day: 0}}},
		} {
			e := emptied(r)
			if a, b := firstOf(expand.Days(r, start), 20), firstOf(expand.Days(e, start), 20); len(a) != 20 || !slices.Equal(a, b) {
				t.Errorf("%+v: nil lists %v, empty ones %v", r, a, b)
			}
			if a, b := firstOf(expand.Periods(r, start), 20), firstOf(expand.Periods(e, start), 20); !slices.Equal(a, b) {
				t.Errorf("%+v: nil lists %v, empty ones %v", r, a, b)
			}
			s := expand.Period(r.Freq, start)
			if a, b := expand.In(r, start, s), expand.In(e, start, s); !slices.Equal(a, b) {
				t.Errorf("%+v: nil lists %v, empty ones %v", r, a, b)
			}
		}
	}
}

// spare: the list with marked spare capacity behind it.
func spare[E any](list []E, mark E) []E {
	return slices.Concat(list, slices.Repeat([]E{mark}, 5))[:len(list)]
}

// whole: a copy of the rule's lists, with the spare capacity.
func whole(r rule.Rule) rule.Rule {
	r.Months, r.Days, r.Pos = slices.Clone(r.Months[:cap(r.Months)]), slices.Clone(r.Days[:cap(r.Days)]), slices.Clone(r.Pos[:cap(r.Pos)])
	r.Weekdays = slices.Clone(r.Weekdays[:cap(r.Weekdays)])
	return r
}

func TestNothingModifiedOrShared(t *testing.T) { // R5
	x := rand.New(rand.NewSource(7))
	for range 300 {
		r := randomRule(x, allFreqs[x.Intn(4)])
		r.Months, r.Days, r.Pos = spare(r.Months, 77), spare(r.Days, 77), spare(r.Pos, 77)
		r.Weekdays = spare(r.Weekdays, rule.Nth{N: 77, Day: 77})
		r.Until = 742000
		start := civil.Day(739000 + x.Intn(1000))
		before := whole(r)
		firstOf(expand.Periods(r, start), 10)
		firstOf(expand.Days(r, start), 100)
		s := expand.Period(r.Freq, start)
		got := expand.In(r, start, s)
		want := slices.Clone(got)
		all := got[:cap(got)]
		for i := range all {
			all[i] = -99
		}
		if again := expand.In(r, start, s); !slices.Equal(again, want) {
			t.Fatalf("In(%+v) = %v, then %v", r, want, again)
		}
		if !rule.Same(whole(r), before) {
			t.Fatalf("%+v: the argument or what is behind it was modified", before)
		}
	}
}

func TestNoDaysAndNoPeriods(t *testing.T) { // P1, R7: starts that are no days, periods that there are not
	for _, d := range []civil.Day{math.MinInt, -1, 0, civil.Last + 1, math.MaxInt} {
		for _, f := range allFreqs {
			expand.Period(f, d)
			for _, r := range []rule.Rule{{Freq: f, Interval: 1}, {Freq: f, Interval: 999, Months: []int{1}}, {Freq: f, Interval: 1, Weekdays: []rule.Nth{{}}, Pos: []int{-1}}} {
				firstOf(expand.Periods(r, d), 100)
				firstOf(expand.Days(r, d), 100)
				expand.In(r, d, expand.Period(f, 739936))
			}
		}
	}
	for _, f := range []rule.Freq{math.MinInt, -1, rule.Freqs, math.MaxInt} {
		for _, d := range []civil.Day{math.MinInt, 0, 1, 739936, civil.Last, math.MaxInt} {
			s := expand.Period(f, d)
			for _, r := range []rule.Rule{{Freq: f, Interval: 1}, {Freq: f, Interval: 1, Months: []int{1}}} {
				firstOf(expand.Periods(r, d), 100)
				firstOf(expand.Days(r, d), 100)
				expand.In(r, d, s)
			}
		}
	}
}

func TestSpansThatAreNoPeriods(t *testing.T) { // P1, R7
	ends := []civil.Day{math.MinInt, -1, 0, 1, 2, 739936, 739939, civil.Last, civil.Last + 1, math.MaxInt}
	for _, f := range allFreqs {
		for _, from := range ends {
			for _, to := range ends {
				for _, start := range []civil.Day{math.MinInt, 0, 739936, math.MaxInt} {
					s := expand.Span{From: from, To: to}
					expand.In(rule.Rule{Freq: f, Interval: 1}, start, s)
					expand.In(rule.Rule{Freq: f, Interval: 1, Weekdays: []rule.Nth{{Day: 2}}, Pos: []int{-1, 1}}, start, s)
				}
			}
		}
	}
}

func TestRulesThatAreNotValid(t *testing.T) { // P1, R7: there is an end and no panic, and the argument stays
	odd := []int{math.MinInt, math.MinInt + 1, -367, -54, -32, -1, 0, 1, 6, 7, 12, 13, 32, 54, 367, 1000, math.MaxInt - 1, math.MaxInt}
	x := rand.New(rand.NewSource(8))
	element := func() int {
		if x.Intn(2) == 0 {
			return odd[x.Intn(len(odd))]
		}
		return x.Intn(30) - 15
	}
	list := func(size int) (l []int) {
		for range size * x.Intn(2) {
			l = append(l, element())
		}
		return l
	}
	for _, size := range []int{0, 1, 2, 13, 65, 1000} {
		for range 150 {
			r := rule.Rule{Freq: allFreqs[x.Intn(4)], Interval: element(), Count: element(), Until: civil.Day(element())}
			if x.Intn(2) == 0 {
				r.Interval, r.Until = 1+x.Intn(999), 0
			}
			r.Months, r.Days, r.Pos = list(size), list(size), list(size)
			for range size * x.Intn(2) {
				r.Weekdays = append(r.Weekdays, rule.Nth{N: element(), Day: element()})
			}
			start := civil.Last - civil.Day(x.Intn(5000))
			before := whole(r)
			firstOf(expand.Days(r, start), 1000)
			for _, s := range firstOf(expand.Periods(r, start), 50) {
				expand.In(r, start, s)
			}
			if !rule.Same(whole(r), before) {
				t.Fatalf("modified %+v to %+v", before, r)
			}
		}
	}
}

func TestIntervalsThatAreNotValid(t *testing.T) { // P1, R7: nobody stops these iterations
	const wraps = (1<<64 + 5) / 7 // times 7, in 64 bits, it is 5
	for _, f := range allFreqs {
		for _, interval := range []int{math.MinInt, -999, -1, 0, 1000, int(civil.Last), 1 << 60, math.MaxInt / 7, wraps, wraps + 1, 1 << 62, math.MaxInt - 1, math.MaxInt} {
			for _, r := range []rule.Rule{{Freq: f, Interval: interval}, {Freq: f, Interval: interval, Months: []int{2}, Days: []int{30}}} {
				for _, start := range []civil.Day{0, 1, 739936, civil.Last} {
					for n := range counted(expand.Periods(r, start)) {
						if n > 4000 {
							t.Fatalf("%+v: periods without end", r)
						}
					}
					for n := range counted(expand.Days(r, start)) {
						if n > 4000 {
							t.Fatalf("%+v: days without end", r)
						}
					}
				}
			}
		}
	}
}

// counted: an iteration's elements, with their numbers from 1.
func counted[E any](seq iter.Seq[E]) iter.Seq2[int, E] {
	return func(yield func(int, E) bool) {
		n := 0
		for x := range seq {
			if n++; !yield(n, x) {
				return
			}
		}
	}
}

// All days there are, looked through for nothing, with the longest lists.
func TestLongListsToTheEnd(t *testing.T) { // P1, R7
	for _, f := range allFreqs {
		r := rule.Rule{Freq: f, Interval: 1, Months: slices.Repeat([]int{2}, 1000), Days: slices.Repeat([]int{30}, 1000), Pos: slices.Repeat([]int{1}, 1000)}
		r.Weekdays = slices.Repeat([]rule.Nth{{N: 1}, {}}, 500)
		if got := firstOf(expand.Days(r, civil.First), 1); len(got) > 0 {
			t.Errorf("period %d: %v", f, got)
		}
	}
}
