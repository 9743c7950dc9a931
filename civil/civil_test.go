package civil_test

import (
	"math"
	"strconv"
	"testing"
	"time"

	"kalends/civil"
)

// noYears and noMonths are numbers outside the calendar, among them those whose remainders look like leap years.
var (
	noYears  = []int{0, -1, -4, -400, 10000, 10004, 12000, math.MinInt, math.MinInt + 1, math.MaxInt, math.MaxInt - 3}
	noMonths = []int{0, -1, -2, -12, 13, 14, 24, math.MinInt, math.MaxInt}
	noDays   = []civil.Day{0, -1, -7, -3652059, civil.Last + 1, civil.Last + 7, math.MinInt, math.MinInt + 1, math.MaxInt, math.MaxInt - 1}
)

func TestLeapYearsOfAllKinds(t *testing.T) { // P1.1
	leaps := []int{4, 8, 96, 104, 400, 800, 1600, 1996, 2000, 2004, 2024, 2400, 9600, 9996}
	for _, y := range leaps {
		if !civil.Leap(y) {
			t.Errorf("Leap(%d) is false", y)
		}
	}
	common := []int{1, 2, 3, 5, 100, 200, 300, 500, 1700, 1800, 1900, 1999, 2001, 2023, 2025, 2026, 2100, 9900, 9998, 9999}
	for _, y := range common {
		if civil.Leap(y) {
			t.Errorf("Leap(%d) is true", y)
		}
	}
}

func TestLeapYearsAreCounted(t *testing.T) { // P1.1
	n := 0
	for y := 1; y <= 9999; y++ {
		if civil.Leap(y) {
			n++
		}
	}
	if n != 2424 {
		t.Errorf("%d leap years", n)
	}
}

func TestLongOfMonths(t *testing.T) { // P1.1
	for _, y := range []int{1, 4, 100, 400, 1900, 2000, 2023, 2024, 9996, 9999} {
		want := [12]int{31, 28, 31, 30, 31, 30, 31, 31, 30, 31, 30, 31}
		if y%400 == 0 || y%4 == 0 && y%100 != 0 {
			want[1] = 29
		}
		for i, w := range want {
			if got := civil.Long(y, i+1); got != w {
				t.Errorf("Long(%d, %d) = %d, want %d", y, i+1, got, w)
			}
		}
	}
}

func TestLongOfNoMonth(t *testing.T) { // P1.1
	for _, y := range []int{1, 2000, 2023, 9999} {
		for _, m := range noMonths {
			if got := civil.Long(y, m); got != 0 {
				t.Errorf("Long(%d, %d) = %d", y, m, got)
			}
		}
	}
}

// The chapter speaks of years from 1 to 9999 only; of others there is no month.
func TestNoYear(t *testing.T) { // P1.1, P1
	for _, y := range noYears {
		if civil.Leap(y) {
			t.Errorf("Leap(%d) is true", y)
		}
		for m := 1; m <= 12; m++ {
			if got := civil.Long(y, m); got != 0 {
				t.Errorf("Long(%d, %d) = %d", y, m, got)
			}
			checkNoDate(t, y, m, 1)
		}
	}
}

func TestOfKnownDates(t *testing.T) { // P1.1
	for _, k := range []struct {
		y, m, d int
		want    civil.Day
	}{
		{1, 1, 1, 1}, {1, 1, 31, 31}, {1, 2, 1, 32}, {1, 12, 31, 365}, {2, 1, 1, 366},
		{4, 2, 29, 1155}, {4, 12, 31, 1461}, {5, 1, 1, 1462},
		{100, 12, 31, 36524}, {101, 1, 1, 36525}, {400, 12, 31, 146097}, {401, 1, 1, 146098},
		{1970, 1, 1, 719163}, {2000, 2, 29, 730179}, {2026, 11, 16, 739936}, {9999, 12, 31, 3652059},
	} {
		if got, ok := civil.Of(k.y, k.m, k.d); got != k.want || !ok {
			t.Errorf("Of(%d, %d, %d) = %d, %t, want %d", k.y, k.m, k.d, got, ok, k.want)
		}
		if y, m, d := k.want.Date(); y != k.y || m != k.m || d != k.d {
			t.Errorf("Day(%d).Date() = %d, %d, %d", k.want, y, m, d)
		}
	}
}

func checkNoDate(t *testing.T, y, m, d int) {
	t.Helper()
	if got, ok := civil.Of(y, m, d); got != 0 || ok {
		t.Errorf("Of(%d, %d, %d) = %d, %t", y, m, d, got, ok)
	}
}

func TestOfNoDate(t *testing.T) { // P1.1
	for _, m := range noMonths {
		checkNoDate(t, 2024, m, 1)
	}
	for _, y := range []int{1, 1900, 2000, 2023, 2024, 9999} {
		for m := 1; m <= 12; m++ {
			long := time.Date(y, time.Month(m+1), 0, 0, 0, 0, 0, time.UTC).Day()
			for _, d := range []int{0, -1, long + 1, 32, 366, math.MinInt, math.MaxInt} {
				checkNoDate(t, y, m, d)
			}
			if _, ok := civil.Of(y, m, long); !ok {
				t.Errorf("Of(%d, %d, %d) is false", y, m, long)
			}
		}
	}
	checkNoDate(t, math.MinInt, math.MinInt, math.MinInt)
	checkNoDate(t, math.MaxInt, math.MaxInt, math.MaxInt)
	checkNoDate(t, 0, 12, 31)
	checkNoDate(t, 10000, 1, 1)
}

func TestBounds(t *testing.T) { // P1.1
	if civil.First != 1 || civil.Last != 3652059 {
		t.Error("the first and the last day")
	}
	for _, n := range []civil.Day{1, 2, 730179, 3652058, 3652059} {
		if !n.Valid() {
			t.Errorf("Day(%d) is not valid", n)
		}
	}
}

func TestNumbersThatAreNoDay(t *testing.T) { // P1.1, P1.2, P1
	for _, n := range noDays {
		y, m, d := n.Date()
		if n.Valid() || y != 0 || m != 0 || d != 0 || n.Weekday() != 0 || n.Text() != "" {
			t.Errorf("Day(%d): %t, %d-%d-%d, %d, %q", n, n.Valid(), y, m, d, n.Weekday(), n.Text())
		}
	}
}

func TestWeekdays(t *testing.T) { // P1.1
	for s, want := range map[string]int{
		"0001-01-01": 0, "0001-01-07": 6, "0001-01-08": 0, "1970-01-01": 3, "2000-02-29": 1,
		"2026-11-16": 0, "2026-11-17": 1, "2026-11-22": 6, "9999-12-31": 4,
	} {
		if d, ok := civil.Parse(s); !ok || d.Weekday() != want {
			t.Errorf("%s: weekday %d, want %d", s, d.Weekday(), want)
		}
	}
}

// The library's calendar is the same one, worked out in another way.
func TestEveryDay(t *testing.T) { // P1.1, P1.2
	at := time.Date(1, 1, 1, 0, 0, 0, 0, time.UTC)
	for n := civil.First; n <= civil.Last; n++ {
		wantY, wantM, wantD := at.Date()
		y, m, d := n.Date()
		if y != wantY || m != int(wantM) || d != wantD || !n.Valid() {
			t.Fatalf("Day(%d) is %d-%d-%d", n, y, m, d)
		}
		if got, ok := civil.Of(y, m, d); got != n || !ok {
			t.Fatalf("Of(%d, %d, %d) = %d, %t, want %d", y, m, d, got, ok, n)
		}
		if w := n.Weekday(); w != (int(at.Weekday())+6)%7 {
			t.Fatalf("Day(%d): weekday %d", n, w)
		}
		s := n.Text()
		if s != at.Format("2006-01-02") {
			t.Fatalf("Day(%d): %q", n, s)
		}
		if got, ok := civil.Parse(s); got != n || !ok {
			t.Fatalf("Parse(%q) = %d, %t, want %d", s, got, ok, n)
		}
		at = at.AddDate(0, 0, 1)
	}
	if at.Year() != 10000 {
		t.Errorf("the last day is in year %d", at.Year())
	}
}

func TestTextIsPadded(t *testing.T) { // P1.2
	for n, want := range map[civil.Day]string{
		1: "0001-01-01", 366: "0002-01-01", 3288: "0010-01-01", 36160: "0100-01-01", 739936: "2026-11-16", 3652059: "9999-12-31",
	} {
		if got := n.Text(); got != want {
			t.Errorf("Day(%d).Text() = %q, want %q", n, got, want)
		}
	}
}

func checkNoText(t *testing.T, s string) {
	t.Helper()
	if d, ok := civil.Parse(s); d != 0 || ok {
		t.Errorf("Parse(%q) = %d, %t", s, d, ok)
	}
}

func TestTextsOfNoDay(t *testing.T) { // P1.2
	for _, s := range []string{
		"", "-", "--", "2026", "2026-11", "2026-11-", "20261116", "2026-11-1", "2026-1-16", "26-11-16", "12026-11-16", "02026-11-16",
		"2026-011-16", "2026-11-016", "2026-11-16 ", " 2026-11-16", "2026-11-16\n", "2026-11-16\x00", "2026-11-16T", "2026-11-160",
		"2026/11/16", "2026.11.16", "2026-11/16", "2026/11-16", "2026 11 16", "16-11-2026", "2026-16-11",
		"+026-11-16", "-026-11-16", "-001-01-01", "2026-+1-16", "2026--1-16", "2026-11-+6", "2026-11--6", " 026-11-16", "2026- 1-16", "2026-11- 6",
		"2_26-11-16", "0x1a-11-16", "1e03-01-01", "abcd-ef-gh", "----------", "٢٠٢٦-١١-١٦", "2026‐11‐16", "２026-11-1", "\xff026-11-16",
		"0000-01-01", "0000-02-29", "0000-12-31", "2026-00-16", "2026-13-16", "2026-99-16", "2026-11-00", "2026-11-31", "2026-11-32", "2026-11-99",
		"2023-02-29", "1900-02-29", "2100-02-29", "2024-02-30", "2000-02-30", "2026-04-31", "2026-06-31", "2026-09-31", "10000-01-01", "9999-12-32",
	} {
		checkNoText(t, s)
	}
}

// Each text that is one byte away from a day's is a day's or not, as the library says.
func TestTextsNearADay(t *testing.T) { // P1.2
	for _, s := range []string{"0001-01-01", "1900-02-28", "2000-02-29", "2026-11-16", "9999-12-31"} {
		for i := range len(s) {
			checkNoText(t, s[:i]+s[i+1:])
			for c := range 256 {
				b := string([]byte{byte(c)})
				checkNoText(t, s[:i]+b+s[i:])
				checkAsLibrary(t, s[:i]+b+s[i+1:])
			}
		}
	}
}

func checkAsLibrary(t *testing.T, s string) {
	t.Helper()
	at, err := time.Parse("2006-01-02", s)
	if err != nil || at.Year() < 1 {
		checkNoText(t, s)
	} else if d, ok := civil.Parse(s); !ok || d.Text() != s {
		t.Errorf("Parse(%q) = %d, %t", s, d, ok)
	}
}

func TestAllNumbersInDates(t *testing.T) { // P1.2
	for _, year := range []string{"0000", "0001", "0004", "1900", "2000", "2023", "2024", "9999"} {
		for m := range 100 {
			for d := range 100 {
				checkAsLibrary(t, year+"-"+twoDigits(m)+"-"+twoDigits(d))
			}
		}
	}
}

func twoDigits(n int) string {
	return strconv.Itoa(n/10) + strconv.Itoa(n%10)
}

func FuzzParse(f *testing.F) { // P1.2, P1
	for _, s := range []string{"2026-11-16", "0001-01-01", "9999-12-31", "2023-02-29", ""} {
		f.Add(s)
	}
	f.Fuzz(func(t *testing.T, s string) {
		if d, ok := civil.Parse(s); ok != (d != 0) || ok && (!d.Valid() || d.Text() != s) {
			t.Errorf("Parse(%q) = %d, %t", s, d, ok)
		}
	})
}

func FuzzNumbers(f *testing.F) { // P1.1, P1
	f.Add(2026, 11, 16)
	f.Add(math.MinInt, math.MaxInt, 0)
	f.Fuzz(func(t *testing.T, y, m, d int) {
		n, ok := civil.Of(y, m, d)
		if ok != n.Valid() || ok != (d >= 1 && d <= civil.Long(y, m)) {
			t.Errorf("Of(%d, %d, %d) = %d, %t", y, m, d, n, ok)
		}
		for _, n := range []civil.Day{n, civil.Day(y), civil.Day(m), civil.Day(d)} {
			back, _ := civil.Of(n.Date())
			if n.Valid() && back != n {
				t.Errorf("Day(%d) comes back as %d", n, back)
			}
		}
	})
}
