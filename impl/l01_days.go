package impl

import "strconv"

// The error codes of all chapters.
const (
	ErrNone = iota
	ErrInvalid
	ErrRange
	ErrLimit
	ErrNotFound
	ErrState
	ErrSyntax
)

const (
	MaxYear = 2000
	MaxDay  = 730499
)

// Date is a date of the old or of the new calendar; which one is up to the function it is given to.
type Date struct {
	Year  int64
	Month int64
	Day   int64
}

// reckoning is one of the two calendars. They differ only in their leap years and their first day.
type reckoning int

const (
	oldReckoning reckoning = iota
	newReckoning
)

// firstNewDay is the number of January 1 of the year 1 of the new calendar.
const firstNewDay = 2

// IsOldDate reports whether d is old.
func IsOldDate(d Date) bool { return d.isIn(oldReckoning) }

// IsNewDate reports whether d is new.
func IsNewDate(d Date) bool { return d.isIn(newReckoning) }

// OldDay returns the number of an old date, and ErrNone. It returns 0 and ErrInvalid if d is not
// old.
func OldDay(d Date) (int64, int64) { return d.number(oldReckoning) }

// OldDate returns the old date with the number n, and ErrNone. It returns the zero value and
// ErrRange if n is no day.
func OldDate(n int64) (Date, int64) { return oldReckoning.date(n) }

// NewDay returns the number of a new date, and ErrNone. It returns 0 and ErrInvalid if d is not
// new.
func NewDay(d Date) (int64, int64) { return d.number(newReckoning) }

// NewDate returns the new date with the number n, and ErrNone. It returns the zero value and
// ErrRange if n is not the number of a new date.
func NewDate(n int64) (Date, int64) { return newReckoning.date(n) }

// WeekdayOf returns the weekday of a day, from 0 for Monday to 6 for Sunday, and ErrNone. It
// returns 0 and ErrRange if n is no day.
func WeekdayOf(n int64) (int64, int64) {
	if !isDay(n) {
		return 0, ErrRange
	}
	const saturday = 5 // the weekday of the day 0
	return (n + saturday) % 7, ErrNone
}

// DateText returns the text of a date that is old or new, or "" if d is neither.
func DateText(d Date) string {
	if !d.isValid() {
		return ""
	}
	return paddedNumber(d.Year, 4) + "-" + paddedNumber(d.Month, 2) + "-" + paddedNumber(d.Day, 2)
}

// ReadDate returns the date that is old or new with the text s, and true, or the zero value and
// false if there is none.
func ReadDate(s string) (Date, bool) {
	if len(s) != len("0001-01-01") || s[4] != '-' || s[7] != '-' {
		return Date{}, false
	}
	year, yearRead := readDigits(s[:4])
	month, monthRead := readDigits(s[5:7])
	day, dayRead := readDigits(s[8:])
	d := Date{Year: year, Month: month, Day: day}
	if !yearRead || !monthRead || !dayRead || !d.isValid() {
		return Date{}, false
	}
	return d, true
}

// isDay reports whether n is the number of a day.
func isDay(n int64) bool { return n >= 0 && n <= MaxDay }

// isYear reports whether year is a year of the two calendars.
func isYear(year int64) bool { return year >= 1 && year <= MaxYear }

// isValid reports whether d is old or new.
func (d Date) isValid() bool { return d.isIn(oldReckoning) || d.isIn(newReckoning) }

// isIn reports whether d is a date of a calendar. The month is checked before its length is asked
// for.
func (d Date) isIn(r reckoning) bool {
	return isYear(d.Year) &&
		d.Month >= 1 && d.Month <= 12 &&
		d.Day >= 1 && d.Day <= r.monthLength(d.Year, d.Month)
}

// number returns the number of d in a calendar, and ErrNone, or 0 and ErrInvalid if d is no date
// of it.
func (d Date) number(r reckoning) (int64, int64) {
	if !d.isIn(r) {
		return 0, ErrInvalid
	}
	n := r.yearStart(d.Year) + d.Day - 1
	for month := int64(1); month < d.Month; month++ {
		n += r.monthLength(d.Year, month)
	}
	return n, ErrNone
}

// oldDayOf returns the number of the old date with a year, a month and a day that are known to be one.
func oldDayOf(year int64, month int64, day int64) int64 {
	n, _ := Date{Year: year, Month: month, Day: day}.number(oldReckoning)
	return n
}

// date returns the date with the number n, and ErrNone, or the zero value and ErrRange if n
// belongs to no date of the calendar.
func (r reckoning) date(n int64) (Date, int64) {
	if n < r.yearStart(1) || n >= r.yearStart(MaxYear+1) {
		return Date{}, ErrRange
	}
	// In both calendars the first k years have at most 1461*k/4 days, and less than a year less than
	// that, so this first guess is never too late, and too early by at most one year.
	d := Date{Year: 1 + (n-r.yearStart(1))*4/1461, Month: 1}
	if r.yearStart(d.Year+1) <= n {
		d.Year++
	}
	d.Day = n - r.yearStart(d.Year) + 1
	for d.Day > r.monthLength(d.Year, d.Month) {
		d.Day -= r.monthLength(d.Year, d.Month)
		d.Month++
	}
	return d, ErrNone
}

// yearStart returns the number of January 1 of a year from 1 on, which is no day if the year is behind
// MaxYear.
func (r reckoning) yearStart(year int64) int64 {
	past := year - 1
	n := past*365 + past/4
	if r == newReckoning {
		n += firstNewDay - past/100 + past/400
	}
	return n
}

// isLeapYear reports whether a year is a leap year.
func (r reckoning) isLeapYear(year int64) bool {
	if r == newReckoning && year%100 == 0 {
		return year%400 == 0
	}
	return year%4 == 0
}

// monthLength returns the number of days of a month in 1..12.
func (r reckoning) monthLength(year int64, month int64) int64 {
	switch month {
	case 2:
		if r.isLeapYear(year) {
			return 29
		}
		return 28
	case 4, 6, 9, 11:
		return 30
	}
	return 31
}

// paddedNumber returns n, which is not negative, in decimal with zeros in front up to a width.
func paddedNumber(n int64, width int) string {
	s := strconv.FormatInt(n, 10)
	for len(s) < width {
		s = "0" + s
	}
	return s
}

// readDigits returns the number that a string of digits only stands for, and true, or 0 and false
// if it has another byte. It is stricter than strconv, which also accepts signs. The number may wrap
// around if there are more than 18 digits.
func readDigits(s string) (int64, bool) {
	n := int64(0)
	for i := range len(s) {
		if s[i] < '0' || s[i] > '9' {
			return 0, false
		}
		n = n*10 + int64(s[i]-'0')
	}
	return n, true
}
