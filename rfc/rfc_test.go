package rfc_test

import (
	"math"
	"math/big"
	"math/rand"
	"regexp"
	"slices"
	"strconv"
	"strings"
	"testing"
	"time"

	"kalends/api"
	"kalends/civil"
	"kalends/rfc"
	"kalends/rule"
)

var allFreqs = []rule.Freq{rule.Daily, rule.Weekly, rule.Monthly, rule.Yearly}

// day: the day with that date, which is one.
func day(y, m, d int) civil.Day {
	n, _ := civil.Of(y, m, d)
	return n
}

// nths: weekdays, of an N and a day each.
func nths(numbers ...int) (list []rule.Nth) {
	for pair := range slices.Chunk(numbers, 2) {
		list = append(list, rule.Nth{N: pair[0], Day: pair[1]})
	}
	return list
}

func parses(t *testing.T, s string, want rule.Rule) {
	t.Helper()
	if got, e := rfc.Parse(s); e != api.OK || !rule.Same(got, want) {
		t.Errorf("Parse(%q) = %+v, %d, want %+v", s, got, e, want)
	}
}

func refuses(t *testing.T, s string, want api.Errno) {
	t.Helper()
	got, e := rfc.Parse(s)
	if e != want {
		t.Errorf("Parse(%q): error %d, want %d", s, e, want)
	}
	if !rule.Same(got, rule.Rule{}) {
		t.Errorf("Parse(%q) = %+v beside an error", s, got)
	}
}

func prints(t *testing.T, r rule.Rule, want string) {
	t.Helper()
	if got := rfc.Print(r); got != want {
		t.Errorf("Print(%+v) = %q, want %q", r, got, want)
	}
}

// texts: rules with their texts.
var texts = []struct {
	text string
	r    rule.Rule
}{
	{"FREQ=DAILY", rule.Rule{Freq: rule.Daily, Interval: 1}},
	{"FREQ=WEEKLY", rule.Rule{Freq: rule.Weekly, Interval: 1}},
	{"FREQ=MONTHLY", rule.Rule{Freq: rule.Monthly, Interval: 1}},
	{"FREQ=YEARLY", rule.Rule{Freq: rule.Yearly, Interval: 1}},
	{"FREQ=DAILY;INTERVAL=2", rule.Rule{Freq: rule.Daily, Interval: 2}},
	{"FREQ=YEARLY;INTERVAL=10", rule.Rule{Freq: rule.Yearly, Interval: 10}},
	{"FREQ=WEEKLY;INTERVAL=999", rule.Rule{Freq: rule.Weekly, Interval: 999}},
	{"FREQ=DAILY;COUNT=1", rule.Rule{Freq: rule.Daily, Interval: 1, Count: 1}},
	{"FREQ=MONTHLY;COUNT=9999", rule.Rule{Freq: rule.Monthly, Interval: 1, Count: 9999}},
	{"FREQ=DAILY;UNTIL=00010101", rule.Rule{Freq: rule.Daily, Interval: 1, Until: civil.First}},
	{"FREQ=DAILY;UNTIL=99991231", rule.Rule{Freq: rule.Daily, Interval: 1, Until: civil.Last}},
	{"FREQ=DAILY;UNTIL=20240229", rule.Rule{Freq: rule.Daily, Interval: 1, Until: day(2024, 2, 29)}},
	{"FREQ=DAILY;BYMONTH=1", rule.Rule{Freq: rule.Daily, Interval: 1, Months: []int{1}}},
	{"FREQ=DAILY;BYMONTH=2,10,12", rule.Rule{Freq: rule.Daily, Interval: 1, Months: []int{2, 10, 12}}},
	{"FREQ=MONTHLY;BYMONTHDAY=-31,-1,1,31", rule.Rule{Freq: rule.Monthly, Interval: 1, Days: []int{-31, -1, 1, 31}}},
	{"FREQ=WEEKLY;BYDAY=MO,TU,WE,TH,FR,SA,SU", rule.Rule{Freq: rule.Weekly, Interval: 1, Weekdays: nths(0, 0, 0, 1, 0, 2, 0, 3, 0, 4, 0, 5, 0, 6)}},
	{"FREQ=MONTHLY;BYDAY=-1FR", rule.Rule{Freq: rule.Monthly, Interval: 1, Weekdays: nths(-1, 4)}},
	{"FREQ=MONTHLY;BYDAY=-5SU,-1SA,SU,1MO,1WE,5TH", rule.Rule{Freq: rule.Monthly, Interval: 1, Weekdays: nths(-5, 6, -1, 5, 0, 6, 1, 0, 1, 2, 5, 3)}},
	{"FREQ=YEARLY;BYDAY=-53MO,20TU,53SU", rule.Rule{Freq: rule.Yearly, Interval: 1, Weekdays: nths(-53, 0, 20, 1, 53, 6)}},
	{"FREQ=MONTHLY;BYDAY=MO,TU,WE,TH,FR;BYSETPOS=-1", rule.Rule{Freq: rule.Monthly, Interval: 1, Weekdays: nths(0, 0, 0, 1, 0, 2, 0, 3, 0, 4), Pos: []int{-1}}},
	{"FREQ=YEARLY;BYMONTH=3;BYSETPOS=-366,1,366", rule.Rule{Freq: rule.Yearly, Interval: 1, Months: []int{3}, Pos: []int{-366, 1, 366}}},
	{"FREQ=WEEKLY;INTERVAL=2;UNTIL=20270630;BYDAY=TU", rule.Rule{Freq: rule.Weekly, Interval: 2, Until: day(2027, 6, 30), Weekdays: nths(0, 1)}},
	{"FREQ=YEARLY;INTERVAL=4;COUNT=7;BYMONTH=11;BYMONTHDAY=2,3;BYDAY=TU,1MO;BYSETPOS=1,2", rule.Rule{Freq: rule.Yearly, Interval: 4, Count: 7, Months: []int{11}, Days: []int{2, 3}, Weekdays: nths(0, 1, 1, 0), Pos: []int{1, 2}}},
	{"FREQ=YEARLY;INTERVAL=4;UNTIL=20261118;BYMONTH=11;BYMONTHDAY=-3,2;BYDAY=TU;BYSETPOS=1", rule.Rule{Freq: rule.Yearly, Interval: 4, Until: day(2026, 11, 18), Months: []int{11}, Days: []int{-3, 2}, Weekdays: nths(0, 1), Pos: []int{1}}},
}

func TestPrint(t *testing.T) { // P3.1
	for _, k := range texts {
		prints(t, k.r, k.text)
	}
}

func TestPrintEmptyLists(t *testing.T) { // P3.1, R4
	prints(t, rule.Rule{Interval: 1, Months: []int{}, Days: []int{}, Weekdays: []rule.Nth{}, Pos: []int{}}, "FREQ=DAILY")
}

func TestParse(t *testing.T) { // P3.2
	for _, k := range texts {
		parses(t, k.text, k.r)
	}
	// What Print leaves out may be said.
	parses(t, "FREQ=WEEKLY;INTERVAL=1", rule.Rule{Freq: rule.Weekly, Interval: 1})
}

func TestParsePartsInAnyOrder(t *testing.T) { // P3.2
	for _, k := range texts {
		parts := strings.Split(k.text, ";")
		for i := range parts {
			for j := range parts {
				turned := slices.Clone(parts)
				turned[i], turned[j] = turned[j], turned[i]
				parses(t, strings.Join(turned, ";"), k.r)
			}
		}
		slices.Reverse(parts)
		parses(t, strings.Join(parts, ";"), k.r)
	}
}

func TestParsePartWithoutValueOrName(t *testing.T) { // P3.2
	for _, s := range []string{
		"", ";", ";;", "=", "==", "FREQ", "FREQ=", "FREQ:DAILY", "DAILY", "=DAILY",
		"FREQ=DAILY;", ";FREQ=DAILY", "FREQ=DAILY;;COUNT=2", "FREQ=DAILY;COUNT", "FREQ=DAILY;COUNT2",
		"FREQ=DAILY;=2", "FREQ=DAILY;X=2", "FREQ=DAILY;BYHOUR=2", "FREQ=DAILY;BYYEARDAY=2", "FREQ=DAILY;BYWEEKNO=2", "FREQ=DAILY;WKST=MO",
		"freq=DAILY", "Freq=DAILY", "FREQ=DAILY;count=2", "FREQ=DAILY; COUNT=2", "FREQ=DAILY;COUNT =2", " FREQ=DAILY",
		"FREQ=DAILY;BYMONTHDAYS=2", "FREQ=DAILY;BYMONT=2", "FREQ=DAILY;BY=2", "FREQ=DAILY,COUNT=2", "RRULE:FREQ=DAILY",
		"FREQ=DAILY\n", "FREQ=DAILY\x00", "\xff=1", "FREQ\xff=DAILY", "FREQ=DAILY;\u017fOUNT=2",
	} {
		refuses(t, s, api.ErrForm)
	}
}

func TestParsePartTwice(t *testing.T) { // P3.2
	values := [][2]string{{"FREQ", "DAILY"}, {"INTERVAL", "2"}, {"COUNT", "3"}, {"UNTIL", "20261118"}, {"BYMONTH", "1"}, {"BYMONTHDAY", "1"}, {"BYDAY", "MO"}, {"BYSETPOS", "1"}}
	for _, v := range values {
		part := v[0] + "=" + v[1]
		start := "FREQ=DAILY;"
		if v[0] == "FREQ" {
			start = ""
		}
		refuses(t, start+part+";"+part, api.ErrTwice)
		// The second value is not looked at.
		refuses(t, start+part+";"+v[0]+"=", api.ErrTwice)
		refuses(t, start+part+";"+v[0]+"=x=y", api.ErrTwice)
		refuses(t, start+part+";"+v[0]+"==", api.ErrTwice)
		// Without an = it is no part of that name.
		refuses(t, start+part+";"+v[0], api.ErrForm)
		for _, w := range values {
			if w[0] != v[0] && w[0] != "FREQ" {
				refuses(t, start+part+";"+w[0]+"="+w[1]+";"+part, api.ErrTwice)
			}
		}
	}
}

func TestParseFirstFaultFirst(t *testing.T) { // P3.2, R2
	for s, want := range map[string]api.Errno{
		"FREQ=DAILY;FREQ=DAILY;X":                           api.ErrTwice,
		"FREQ=DAILY;X;FREQ=DAILY":                           api.ErrForm,
		"FREQ=DAILY;COUNT=0;FREQ=DAILY":                     api.ErrForm,
		"FREQ=X;FREQ=DAILY":                                 api.ErrForm,
		"COUNT=x;COUNT=1;FREQ=DAILY":                        api.ErrForm,
		"COUNT=1;COUNT=x":                                   api.ErrTwice, // ahead of no FREQ
		"COUNT=1;COUNT=1;FREQ=DAILY":                        api.ErrTwice,
		"INTERVAL=0":                                        api.ErrForm,  // no FREQ, ahead of Check's
		"INTERVAL=0;COUNT=1;UNTIL=20260101":                 api.ErrForm,  // likewise
		"FREQ=DAILY;INTERVAL=0;COUNT=0":                     api.ErrForm,  // a value, ahead of Check's
		"FREQ=DAILY;INTERVAL=0;INTERVAL=1":                  api.ErrTwice, // likewise
		"FREQ=DAILY;COUNT=10000;UNTIL=20260101":             api.ErrRange,
		"FREQ=DAILY;COUNT=1;UNTIL=20260101;BYMONTH=13":      api.ErrBoth,
		"FREQ=DAILY;BYSETPOS=0;BYMONTH=2,1":                 api.ErrOrder, // Check's order, not the text's
		"FREQ=DAILY;BYMONTH=2,1,13":                         api.ErrOrder,
		"FREQ=DAILY;BYMONTH=13,1":                           api.ErrRange,
		"FREQ=WEEKLY;BYMONTHDAY=1;BYDAY=1MO":                api.ErrRange, // ahead of days by weeks
		"FREQ=DAILY;BYMONTH=" + ones(65) + ";BYMONTHDAY=99": api.ErrSize,
		"FREQ=DAILY;BYMONTH=" + ones(65) + ",":              api.ErrForm,
		"FREQ=DAILY;BYMONTH=1,x;BYMONTH=1":                  api.ErrForm,
	} {
		refuses(t, s, want)
	}
}

// ones: a list of so many ones.
func ones(n int) string {
	return strings.TrimSuffix(strings.Repeat("1,", n), ",")
}

func TestParseChecks(t *testing.T) { // P3.2
	for s, want := range map[string]api.Errno{
		"FREQ=DAILY;INTERVAL=0":                       api.ErrRange,
		"FREQ=DAILY;INTERVAL=1000":                    api.ErrRange,
		"FREQ=DAILY;INTERVAL=-1":                      api.ErrRange,
		"FREQ=DAILY;COUNT=-1":                         api.ErrRange,
		"FREQ=DAILY;COUNT=10000":                      api.ErrRange,
		"FREQ=DAILY;COUNT=1;UNTIL=20260101":           api.ErrBoth,
		"UNTIL=20260101;COUNT=1;FREQ=DAILY":           api.ErrBoth,
		"FREQ=DAILY;BYMONTH=0":                        api.ErrRange,
		"FREQ=DAILY;BYMONTH=13":                       api.ErrRange,
		"FREQ=DAILY;BYMONTH=-1":                       api.ErrRange,
		"FREQ=DAILY;BYMONTH=1,1":                      api.ErrOrder,
		"FREQ=DAILY;BYMONTHDAY=0":                     api.ErrRange,
		"FREQ=DAILY;BYMONTHDAY=32":                    api.ErrRange,
		"FREQ=DAILY;BYMONTHDAY=-32":                   api.ErrRange,
		"FREQ=DAILY;BYMONTHDAY=1,-1":                  api.ErrOrder,
		"FREQ=WEEKLY;BYMONTHDAY=1":                    api.ErrKind,
		"FREQ=DAILY;BYDAY=1MO":                        api.ErrRange,
		"FREQ=WEEKLY;BYDAY=-1MO":                      api.ErrRange,
		"FREQ=MONTHLY;BYDAY=6MO":                      api.ErrRange,
		"FREQ=MONTHLY;BYDAY=-6MO":                     api.ErrRange,
		"FREQ=YEARLY;BYDAY=54MO":                      api.ErrRange,
		"FREQ=MONTHLY;BYDAY=TU,MO":                    api.ErrOrder,
		"FREQ=MONTHLY;BYDAY=1MO,SU":                   api.ErrOrder,
		"FREQ=DAILY;BYMONTH=1;BYSETPOS=0":             api.ErrRange,
		"FREQ=DAILY;BYMONTH=1;BYSETPOS=367":           api.ErrRange,
		"FREQ=DAILY;BYMONTH=1;BYSETPOS=-367":          api.ErrRange,
		"FREQ=DAILY;BYMONTH=1;BYSETPOS=1,1":           api.ErrOrder,
		"FREQ=DAILY;BYSETPOS=1":                       api.ErrKind,
		"FREQ=DAILY;BYMONTH=" + ones(64):              api.ErrOrder,
		"FREQ=DAILY;BYMONTH=" + ones(65):              api.ErrSize,
		"FREQ=DAILY;BYMONTHDAY=" + ones(65):           api.ErrSize,
		"FREQ=DAILY;BYMONTH=1;BYSETPOS=" + ones(1000): api.ErrSize,
		"FREQ=DAILY;BYDAY=" + strings.TrimSuffix(strings.Repeat("MO,", 65), ","): api.ErrSize,
	} {
		refuses(t, s, want)
	}
}

func TestParseNumbers(t *testing.T) { // P3.2
	wrong := []string{
		"", " ", "-", "+", "--1", "+1", "-+1", "+0", "-0", "00", "01", "-01", "001", "-00",
		" 1", "1 ", "- 1", "1-", "1.", "1.0", "1e1", "0x1", "1_0", "0b1", "x", "1x", "x1", "\u0661", "1\u00a0", "1\x00", "\xff", "\u22121", "1=", "=1",
		"9223372036854775808", "-9223372036854775809", "18446744073709551615", "18446744073709551616", "18446744073709551617",
		"-18446744073709551615", "99999999999999999999", "-99999999999999999999", strings.Repeat("1", 1000), "-" + strings.Repeat("1", 1000),
		strings.Repeat("0", 1000), strings.Repeat("0", 40) + "1",
	}
	for _, name := range []string{"INTERVAL", "COUNT", "BYMONTH", "BYMONTHDAY", "BYSETPOS"} {
		for _, n := range wrong {
			refuses(t, "FREQ=DAILY;"+name+"="+n, api.ErrForm)
			refuses(t, name+"="+n+";FREQ=DAILY", api.ErrForm)
		}
		for _, n := range []string{"9223372036854775807", "-9223372036854775808", "9223372036854775806", "-9223372036854775807", "4294967297", "-4294967295", "1000000"} {
			refuses(t, "FREQ=DAILY;"+name+"="+n, api.ErrRange)
		}
	}
	for _, n := range wrong {
		if n != "" {
			refuses(t, "FREQ=YEARLY;BYDAY="+n+"MO", api.ErrForm)
		}
	}
	for _, n := range []string{"9223372036854775807", "-9223372036854775808", "4294967297"} {
		refuses(t, "FREQ=YEARLY;BYDAY="+n+"MO", api.ErrRange)
	}
}

func TestParseZeros(t *testing.T) { // P3.2: what is no value, and what Check refuses
	refuses(t, "FREQ=DAILY;COUNT=0", api.ErrForm)
	refuses(t, "FREQ=MONTHLY;BYDAY=0MO", api.ErrForm)
	refuses(t, "FREQ=MONTHLY;BYDAY=-0MO", api.ErrForm)
	refuses(t, "FREQ=MONTHLY;BYDAY=MO,0TU", api.ErrForm)
	for _, part := range []string{"INTERVAL", "BYMONTH", "BYMONTHDAY", "BYSETPOS"} {
		refuses(t, "FREQ=DAILY;"+part+"=0", api.ErrRange)
	}
}

func TestParseFreqs(t *testing.T) { // P3.2
	for _, s := range []string{"", "daily", "Daily", "DAIL", "DAILYS", " DAILY", "DAILY ", "HOURLY", "SECONDLY", "0", "1", "DAILY,WEEKLY", "=DAILY", "DAILY=", "FREQ"} {
		refuses(t, "FREQ="+s, api.ErrForm)
	}
}

func TestParseLists(t *testing.T) { // P3.2
	for _, k := range [][2]string{{"BYMONTH", "1"}, {"BYMONTHDAY", "-1"}, {"BYDAY", "MO"}, {"BYSETPOS", "1"}} {
		for _, v := range []string{"", ",", ",x", "x,", "x,,x", ",,", "x, x", " x", "x ", "x;", "x:x", "(x)", "x-x"} {
			refuses(t, "FREQ=MONTHLY;"+k[0]+"="+strings.ReplaceAll(v, "x", k[1]), api.ErrForm)
		}
	}
}

func TestParseWeekdays(t *testing.T) { // P3.2
	for _, s := range []string{"mo", "Mo", "M", "O", "MON", "MOMO", "1", "-1", "1 MO", "+1MO", "01MO", "MO1", "1MO1", "-MO", "--1MO", "1TUMO", "XX", "X", "1XX", "MO TU", "T\u00dc", "\xffMO"} {
		refuses(t, "FREQ=YEARLY;BYDAY="+s, api.ErrForm)
	}
	for n := -53; n <= 53; n++ {
		for d, name := range []string{"MO", "TU", "WE", "TH", "FR", "SA", "SU"} {
			if n != 0 {
				name = strconv.Itoa(n) + name
			}
			r := rule.Rule{Freq: rule.Yearly, Interval: 1, Weekdays: []rule.Nth{{N: n, Day: d}}}
			parses(t, "FREQ=YEARLY;BYDAY="+name, r)
			prints(t, r, "FREQ=YEARLY;BYDAY="+name)
		}
	}
}

func TestParseUntil(t *testing.T) { // P3.2
	for _, s := range []string{
		"", "0", "00000000", "00010000", "00010100", "00000101", "00011301", "20260001", "20261301", "20260100", "20260132",
		"20260229", "20260230", "20240230", "19000229", "20260431", "20260631", "20260931", "20261131", "99991232",
		"2026111", "202611180", "020261118", "2026-11-18", "2026-1-1", "-2026111", "+2026111", "-0261118", "2026+1+1", "2026111 ", " 2026111",
		"20261118T000000Z", "2026111x", "x0261118", "2026\u066111", "20261118,20261119", "\xff0261118", "----" + "----",
	} {
		refuses(t, "FREQ=DAILY;UNTIL="+s, api.ErrForm)
	}
	// Every third month's days, against the library's calendar.
	for y := 1; y <= 9999; y += 3 {
		for m := 1 + y%3; m <= 12; m += 3 {
			for d := 27; d <= 32; d++ {
				s := "FREQ=DAILY;UNTIL=" + padded(y, 4) + padded(m, 2) + padded(d, 2)
				at := time.Date(y, time.Month(m), d, 0, 0, 0, 0, time.UTC)
				if at.Day() != d {
					refuses(t, s, api.ErrForm)
					continue
				}
				since := at.Unix() - time.Date(1, 1, 1, 0, 0, 0, 0, time.UTC).Unix()
				r := rule.Rule{Interval: 1, Until: civil.Day(since/86400 + 1)}
				parses(t, s, r)
				prints(t, r, s)
			}
		}
	}
}

func padded(n, width int) string {
	s := strconv.Itoa(n)
	return strings.Repeat("0", width-len(s)) + s
}

func TestParseSize(t *testing.T) { // P3.2, R2: the size is the first fault of all
	for _, start := range []string{"", "FREQ=DAILY;", "FREQ=DAILY;FREQ=DAILY;", "FREQ=DAILY;INTERVAL=0;"} {
		whole := start + strings.Repeat("x", api.MaxText-len(start))
		want := api.ErrForm
		if strings.Count(start, "FREQ") == 2 {
			want = api.ErrTwice
		}
		refuses(t, whole, want)
		refuses(t, whole+"x", api.ErrSize)
		refuses(t, whole+whole, api.ErrSize)
	}
	// As long as can be, and only then of Check's error.
	s := "FREQ=DAILY;BYMONTH=1"
	s += strings.Repeat(",1", (api.MaxText-len(s))/2)
	refuses(t, s, api.ErrSize)
	s = "FREQ=DAILY;BYMONTH=" + strings.Repeat("1", api.MaxText-len("FREQ=DAILY;BYMONTH="))
	refuses(t, s, api.ErrForm)
	refuses(t, s+"1", api.ErrSize)
	// Bytes are counted, not runes.
	refuses(t, strings.Repeat("\u00e9", api.MaxText/2+1), api.ErrSize)
	refuses(t, strings.Repeat("\u00e9", api.MaxText/2), api.ErrForm)
	// 2048 parts, all of them empty.
	refuses(t, strings.Repeat(";", api.MaxText), api.ErrForm)
	refuses(t, strings.Repeat(";", api.MaxText+1), api.ErrSize)
}

func TestParseLongRule(t *testing.T) { // P3.2, P3.3: lists as long as they may be
	r := rule.Rule{Freq: rule.Yearly, Interval: 999, Until: civil.Last}
	for i := 1; i <= 12; i++ {
		r.Months = append(r.Months, i)
	}
	for i := -31; i <= 31; i++ {
		if i != 0 {
			r.Days = append(r.Days, i)
		}
	}
	for i := range api.MaxList {
		r.Weekdays = append(r.Weekdays, rule.Nth{N: -53 + i/7, Day: i % 7})
		r.Pos = append(r.Pos, -366+i)
	}
	if r.Check() != api.OK {
		t.Fatal("the rule is not valid")
	}
	parses(t, rfc.Print(r), r)
}

// randomNumbers: up to n different ones from low to high, not 0, in order.
func randomNumbers(x *rand.Rand, n, low, high int) []int {
	var list []int
	for range x.Intn(n + 1) {
		if k := low + x.Intn(high-low+1); k != 0 {
			list = append(list, k)
		}
	}
	slices.Sort(list)
	return slices.Compact(list)
}

func randomWeekdays(x *rand.Rand, f rule.Freq) []rule.Nth {
	most := map[rule.Freq]int{rule.Monthly: 5, rule.Yearly: 53}[f]
	var list []rule.Nth
	for range x.Intn(5) {
		list = append(list, rule.Nth{N: x.Intn(2*most+1) - most, Day: x.Intn(7)})
	}
	slices.SortFunc(list, rule.Order)
	return slices.Compact(list)
}

// randomRule: a valid rule.
func randomRule(x *rand.Rand) rule.Rule {
	r := rule.Rule{Freq: allFreqs[x.Intn(4)], Interval: 1}
	if x.Intn(2) == 0 {
		r.Interval = 1 + x.Intn(api.MaxInterval)
	}
	switch x.Intn(3) {
	case 0:
		r.Count = 1 + x.Intn(api.MaxCount)
	case 1:
		r.Until = civil.First + civil.Day(x.Intn(int(civil.Last)))
	}
	r.Months = randomNumbers(x, 4, 1, 12)
	if r.Freq != rule.Weekly {
		r.Days = randomNumbers(x, 4, -31, 31)
	}
	r.Weekdays = randomWeekdays(x, r.Freq)
	if r.Lists() {
		r.Pos = randomNumbers(x, 4, -366, 366)
	}
	return r
}

// join: numbers with commas between.
func join(list []int) string {
	s := ""
	for i, n := range list {
		if i > 0 {
			s += ","
		}
		s += big.NewInt(int64(n)).String()
	}
	return s
}

// textOf: a rule's text, part by part as the chapter tells them.
func textOf(r rule.Rule) string {
	s := "FREQ=" + []string{"DAILY", "WEEKLY", "MONTHLY", "YEARLY"}[r.Freq]
	if r.Interval != 1 {
		s += ";INTERVAL=" + join([]int{r.Interval})
	}
	if r.Count != 0 {
		s += ";COUNT=" + join([]int{r.Count})
	}
	if r.Until != 0 {
		y, m, d := r.Until.Date()
		s += ";UNTIL=" + padded(10000*y+100*m+d, 8)
	}
	if len(r.Months) > 0 {
		s += ";BYMONTH=" + join(r.Months)
	}
	if len(r.Days) > 0 {
		s += ";BYMONTHDAY=" + join(r.Days)
	}
	for i, w := range r.Weekdays {
		if i == 0 {
			s += ";BYDAY="
		} else {
			s += ","
		}
		if w.N != 0 {
			s += join([]int{w.N})
		}
		s += "MOTUWETHFRSASU"[2*w.Day : 2*w.Day+2]
	}
	if len(r.Pos) > 0 {
		s += ";BYSETPOS=" + join(r.Pos)
	}
	return s
}

func TestPrintIsParsed(t *testing.T) { // P3.1, P3.3
	x := rand.New(rand.NewSource(3))
	for range 20000 {
		r := randomRule(x)
		if e := r.Check(); e != api.OK {
			t.Fatalf("%+v: %d", r, e)
		}
		prints(t, r, textOf(r))
		parses(t, rfc.Print(r), r)
	}
}

// What the values look like; numbers are held against 64 bits apart from that.
var (
	number   = `(?:0|-?[1-9][0-9]*)`
	nonzero  = `(?:-?[1-9][0-9]*)`
	weekday  = nonzero + `?(?:MO|TU|WE|TH|FR|SA|SU)`
	aNumber  = regexp.MustCompile(nonzero)
	patterns = map[string]*regexp.Regexp{
		"FREQ":       regexp.MustCompile(`^(?:DAILY|WEEKLY|MONTHLY|YEARLY)$`),
		"INTERVAL":   regexp.MustCompile(`^` + number + `$`),
		"COUNT":      regexp.MustCompile(`^` + nonzero + `$`),
		"UNTIL":      regexp.MustCompile(`^[0-9]{8}$`),
		"BYMONTH":    regexp.MustCompile(`^` + number + `(?:,` + number + `)*$`),
		"BYMONTHDAY": regexp.MustCompile(`^` + number + `(?:,` + number + `)*$`),
		"BYDAY":      regexp.MustCompile(`^` + weekday + `(?:,` + weekday + `)*$`),
		"BYSETPOS":   regexp.MustCompile(`^` + number + `(?:,` + number + `)*$`),
	}
)

// valueFits: is it a value of that part?
func valueFits(name, value string) bool {
	if !patterns[name].MatchString(value) || strings.HasSuffix(value, "\n") {
		return false
	}
	if name == "UNTIL" {
		_, err := time.Parse("20060102", value)
		return err == nil && value[:4] != "0000"
	}
	for _, n := range aNumber.FindAllString(value, -1) {
		if b, _ := new(big.Int).SetString(n, 10); !b.IsInt64() {
			return false
		}
	}
	return true
}

// ruleOf: the rule of parts whose values fit.
func ruleOf(values map[string]string) rule.Rule {
	r := rule.Rule{Interval: 1}
	r.Freq = rule.Freq(slices.Index([]string{"DAILY", "WEEKLY", "MONTHLY", "YEARLY"}, values["FREQ"]))
	numbers := func(name string) (list []int) {
		if s, ok := values[name]; ok {
			for _, n := range strings.FieldsFunc(s, func(c rune) bool { return c == ',' }) {
				b, _ := new(big.Int).SetString(n, 10)
				list = append(list, int(b.Int64()))
			}
		}
		return list
	}
	if list := numbers("INTERVAL"); list != nil {
		r.Interval = list[0]
	}
	if list := numbers("COUNT"); list != nil {
		r.Count = list[0]
	}
	if s, ok := values["UNTIL"]; ok {
		r.Until, _ = civil.Parse(s[:4] + "-" + s[4:6] + "-" + s[6:])
	}
	r.Months, r.Days, r.Pos = numbers("BYMONTH"), numbers("BYMONTHDAY"), numbers("BYSETPOS")
	if s, ok := values["BYDAY"]; ok {
		for _, w := range strings.FieldsFunc(s, func(c rune) bool { return c == ',' }) {
			b, _ := new(big.Int).SetString("0"+strings.TrimPrefix(w[:len(w)-2], "-"), 10)
			if w[0] == '-' {
				b.Neg(b)
			}
			r.Weekdays = append(r.Weekdays, rule.Nth{N: int(b.Int64()), Day: strings.Index("MOTUWETHFRSASU", w[len(w)-2:]) / 2})
		}
	}
	return r
}

// expected: what Parse returns, worked out another way.
func expected(s string) (rule.Rule, api.Errno) {
	if len(s) > 4096 {
		return rule.Rule{}, api.ErrSize
	}
	values := map[string]string{}
	for len(s) >= 0 {
		end := strings.IndexByte(s+";", ';')
		equals := strings.IndexByte(s[:end], '=')
		if equals < 0 || patterns[s[:equals]] == nil {
			return rule.Rule{}, api.ErrForm
		}
		name, value := s[:equals], s[equals+1:end]
		if _, twice := values[name]; twice {
			return rule.Rule{}, api.ErrTwice
		}
		if !valueFits(name, value) {
			return rule.Rule{}, api.ErrForm
		}
		values[name] = value
		if end == len(s) {
			break
		}
		s = s[end+1:]
	}
	if _, ok := values["FREQ"]; !ok {
		return rule.Rule{}, api.ErrForm
	}
	r := ruleOf(values)
	if e := r.Check(); e != api.OK {
		return rule.Rule{}, e
	}
	return r, api.OK
}

func sameAsExpected(t *testing.T, s string) {
	t.Helper()
	want, wantError := expected(s)
	got, e := rfc.Parse(s)
	if e != wantError || !rule.Same(got, want) {
		t.Errorf("Parse(%q) = %+v, %d, want %+v, %d", s, got, e, want, wantError)
	}
	if e != api.OK {
		return
	}
	if again, e := rfc.Parse(rfc.Print(got)); e != api.OK || !rule.Same(again, got) {
		t.Errorf("Print of %q is %q", s, rfc.Print(got))
	}
}

func TestParseTextsWithFaults(t *testing.T) { // P3.2, P1
	x := rand.New(rand.NewSource(4))
	letters := ";=,-+ 0123456789MOTUWEFRSADLYINV\xc3\xff"
	for range 60000 {
		s := []byte(rfc.Print(randomRule(x)))
		for range x.Intn(3) {
			at := x.Intn(len(s))
			switch x.Intn(5) {
			case 0:
				s[at] = letters[x.Intn(len(letters))]
			case 1:
				s = slices.Delete(s, at, at+1)
			case 2:
				s = slices.Insert(s, at, letters[x.Intn(len(letters))])
			case 3:
				s = append(append(s, ';'), rfc.Print(randomRule(x))...)
			case 4:
				s = s[at:]
			}
			if len(s) == 0 {
				break
			}
		}
		sameAsExpected(t, string(s))
	}
}

func TestParseCombinedParts(t *testing.T) { // P3.2: parts, good and bad, in all short orders
	parts := []string{
		"", "X", "X=1", "FREQ", "FREQ=", "FREQ=DAILY", "FREQ=WEEKLY", "FREQ=MONTHLY", "FREQ=YEARLY", "FREQ=x",
		"INTERVAL=1", "INTERVAL=0", "INTERVAL=", "COUNT=1", "COUNT=0", "COUNT=-1", "UNTIL=20261118", "UNTIL=20261131",
		"BYMONTH=1", "BYMONTH=2,1", "BYMONTH=", "BYMONTHDAY=-1", "BYMONTHDAY=0", "BYMONTHDAY=,", "BYDAY=MO", "BYDAY=-1MO", "BYDAY=0MO", "BYSETPOS=1", "BYSETPOS=1,1", "BYSETPOS=x",
	}
	for _, a := range parts {
		sameAsExpected(t, a)
		for _, b := range parts {
			sameAsExpected(t, a+";"+b)
			for _, c := range parts {
				sameAsExpected(t, a+";"+b+";"+c)
				sameAsExpected(t, "FREQ=MONTHLY;"+a+";"+b+";"+c)
			}
		}
	}
}

func TestPrintOfInvalidRules(t *testing.T) { // P1, R7: no panic, and an end
	numbers := []int{math.MinInt, -1000, -1, 0, 1, 6, 7, 1000, math.MaxInt}
	long := make([]int, 1000)
	longWeekdays := make([]rule.Nth, 1000)
	for _, n := range numbers {
		for _, m := range numbers {
			for i := range long {
				long[i], longWeekdays[i] = n, rule.Nth{N: m, Day: n}
			}
			for _, r := range []rule.Rule{
				{Freq: rule.Freq(n), Interval: m},
				{Freq: rule.Yearly, Interval: n, Count: m},
				{Freq: rule.Yearly, Interval: 1, Count: n, Until: civil.Day(m)},
				{Freq: rule.Freq(n), Interval: 1, Until: civil.Day(m)},
				{Freq: rule.Yearly, Interval: 1, Weekdays: []rule.Nth{{N: n, Day: m}}},
				{Freq: rule.Monthly, Interval: 1, Days: []int{n}, Months: []int{m}, Pos: []int{n}},
				{Freq: rule.Freq(m), Interval: 1, Days: long, Months: long, Weekdays: longWeekdays, Pos: long},
			} {
				text := rfc.Print(r)
				if r.Check() == api.OK {
					parses(t, text, r)
				}
			}
		}
	}
}

func TestNothingModified(t *testing.T) { // R5
	x := rand.New(rand.NewSource(5))
	for range 500 {
		r := randomRule(x)
		r.Months = append(append(make([]int, 0, 20), r.Months...), 77)
		r.Weekdays = append(append(make([]rule.Nth, 0, 20), r.Weekdays...), rule.Nth{N: 77, Day: 77})
		whole := r
		whole.Months, whole.Weekdays = slices.Clone(r.Months), slices.Clone(r.Weekdays)
		whole.Days, whole.Pos = slices.Clone(r.Days), slices.Clone(r.Pos)
		cut := r
		cut.Months, cut.Weekdays = r.Months[:len(r.Months)-1], r.Weekdays[:len(r.Weekdays)-1]
		rfc.Print(cut)
		if !rule.Same(r, whole) {
			t.Fatalf("Print modified %+v to %+v", whole, r)
		}
	}
}

func TestResultsAreSeparate(t *testing.T) { // R5: no two results share a list
	s := "FREQ=YEARLY;BYMONTH=1,2;BYMONTHDAY=1,2;BYDAY=MO,TU;BYSETPOS=1,2"
	a, _ := rfc.Parse(s)
	b, _ := rfc.Parse(s)
	a.Months[0], a.Days[0], a.Weekdays[0], a.Pos[0] = 9, 9, rule.Nth{N: 9}, 9
	if rule.Same(a, b) || rfc.Print(b) != s {
		t.Error("two results share a list")
	}
	for _, list := range [][]int{b.Months, b.Days, b.Pos} {
		_ = append(list, 99)
	}
	if rfc.Print(b) != s {
		t.Error("two lists of one result share memory")
	}
}

func FuzzParse(f *testing.F) {
	for _, k := range texts {
		f.Add(k.text)
	}
	f.Fuzz(sameAsExpected)
}
