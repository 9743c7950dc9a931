// Package civil is layer 1: days: see shared/doc/01-civil.md.
package civil

// Day is a day's number: 1 is the first of January of year 1.
type Day int

// First, Last are the days that there are.
const (
	First Day = 1
	Last  Day = 3652059
)

// The years that have days.
const (
	firstYear = 1
	lastYear  = 9999
)

// How many days the calendar's cycles have. Counted from year 1, only the last part of a cycle differs from the others: the fourth year and the fourth century may have a day more, the last four years of a century a day less.
const (
	yearDays        = 365
	fourYearDays    = 4*yearDays + 1
	centuryDays     = 25*fourYearDays - 1
	fourCenturyDays = 4*centuryDays + 1
)

// months is how many days each month has in a common year.
var months = [12]int{31, 28, 31, 30, 31, 30, 31, 31, 30, 31, 30, 31}

// Leap: has a year a day more? (Not one without days.)
func Leap(y int) bool {
	return isYear(y) && y%4 == 0 && (y%100 != 0 || y%400 == 0)
}

// Long: how many days a month of a year has; 0 of no month.
func Long(y, m int) int {
	if !isYear(y) || m < 1 || m > len(months) {
		return 0
	}
	if m == 2 && Leap(y) {
		return months[m-1] + 1
	}
	return months[m-1]
}

// Of: a date's number; false: there is none such.
func Of(y, m, d int) (Day, bool) {
	if d < 1 || d > Long(y, m) {
		return 0, false
	}
	n := daysBefore(y) + d
	for k := 1; k < m; k++ {
		n += Long(y, k)
	}
	return Day(n), true
}

// Valid: is it a day?
func (n Day) Valid() bool {
	return First <= n && n <= Last
}

// Date: a day's year, month, day; noughts of no day.
func (n Day) Date() (y, m, d int) {
	if !n.Valid() {
		return 0, 0, 0
	}
	y, d = yearOf(int(n - First))
	m = 1
	for d >= Long(y, m) {
		d -= Long(y, m)
		m++
	}
	return y, m, d + 1
}

// Weekday: 0 is a Monday; 0 of no day.
func (n Day) Weekday() int {
	if !n.Valid() {
		return 0
	}
	return int(n-First) % 7
}

// Text: year-month-day; "" of no day.
func (n Day) Text() string {
	if !n.Valid() {
		return ""
	}
	y, m, d := n.Date()
	return padded(y, 4) + "-" + padded(m, 2) + "-" + padded(d, 2)
}

// Parse: a day's Text; false: it is none.
func Parse(s string) (Day, bool) {
	if len(s) != 10 || s[4] != '-' || s[7] != '-' {
		return 0, false
	}
	y, yearOK := digits(s[:4])
	m, monthOK := digits(s[5:7])
	d, dayOK := digits(s[8:])
	if !yearOK || !monthOK || !dayOK {
		return 0, false
	}
	return Of(y, m, d)
}

func isYear(y int) bool {
	return firstYear <= y && y <= lastYear
}

// daysBefore: how many days all earlier years have.
func daysBefore(y int) int {
	years := y - firstYear
	return years*yearDays + years/4 - years/100 + years/400
}

// yearOf: the year that contains the day with so many days before it, and how many of those are in that year.
func yearOf(before int) (year, rest int) {
	fourCenturies := before / fourCenturyDays
	rest = before % fourCenturyDays
	// The fourth century and the fourth year may have a leap day more than the others; it must not count as a fifth one.
	centuries := min(rest/centuryDays, 3)
	rest -= centuries * centuryDays
	fourYears := rest / fourYearDays
	rest -= fourYears * fourYearDays
	years := min(rest/yearDays, 3)
	rest -= years * yearDays
	return firstYear + 400*fourCenturies + 100*centuries + 4*fourYears + years, rest
}

// padded: a number in so many digits, with leading zeros.
func padded(n, width int) string {
	b := make([]byte, width)
	for i := range width {
		b[width-1-i] = byte('0' + n%10)
		n /= 10
	}
	return string(b)
}

// digits: the number of a text that is digits alone. (strconv.Atoi would take signs, too.)
func digits(s string) (int, bool) {
	n := 0
	for i := range len(s) {
		if s[i] < '0' || s[i] > '9' {
			return 0, false
		}
		n = n*10 + int(s[i]-'0')
	}
	return n, true
}
