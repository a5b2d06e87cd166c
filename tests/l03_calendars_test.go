package tests

import (
	"math/rand"
	"slices"
	"sync"
	"testing"

	"loop.example/g01034/impl"
)

const (
	firstReform = 200000
	lastReform  = lastNewDay
	noReform    = impl.MaxDay + 1
	romeReform  = 577737
	// londonReform is the day behind September 2, 1752.
	londonReform = 639798
)

// walk holds the dates of all days of both calendars, found by going on from day to day, and the days
// of all dates, or -1. It is the reference for all tests of calendars.
type walk struct {
	oldDates, newDates     []impl.Date
	oldNumbers, newNumbers []int64
}

var walked = sync.OnceValue(func() *walk {
	w := &walk{}
	w.oldDates, w.oldNumbers = walkDays(0, leapOld)
	w.newDates, w.newNumbers = walkDays(firstNewDay, leapNew)
	return w
})

// walkDays walks over the years 1 to 2000 of a calendar whose first day has a number.
func walkDays(first int64, leap func(int64) bool) ([]impl.Date, []int64) {
	dates := make([]impl.Date, impl.MaxDay+1)
	numbers := slices.Repeat([]int64{-1}, 2001*13*32)
	d := impl.Date{Year: 1, Month: 1, Day: 1}
	for n := first; d.Year <= 2000; n++ {
		dates[n] = d
		numbers[place(d)] = n
		d = following(d, leap)
	}
	return dates, numbers
}

// place tells where the number of a date with a year in 0..2000, a month in 0..12 and a day in 0..31
// is kept.
func place(d impl.Date) int64 { return (d.Year*13+d.Month)*32 + d.Day }

// numberIn tells the number of a date in one calendar, or -1 if it is no date of it.
func numberIn(numbers []int64, d impl.Date) int64 {
	if d.Year < 0 || d.Year > 2000 || d.Month < 0 || d.Month > 12 || d.Day < 0 || d.Day > 31 {
		return -1
	}
	return numbers[place(d)]
}

// isReform tells whether a calendar with this reform is valid.
func isReform(reform int64) bool {
	return reform >= firstReform && reform <= lastReform || reform == noReform
}

// localDay tells what LocalDay has to return.
func (w *walk) localDay(reform int64, d impl.Date) (int64, int64) {
	old, new := numberIn(w.oldNumbers, d), numberIn(w.newNumbers, d)
	if !isReform(reform) || old < 0 && new < 0 {
		return 0, impl.ErrInvalid
	}
	if old >= 0 && old < reform {
		return old, impl.ErrNone
	}
	if new >= 0 && new >= reform {
		return new, impl.ErrNone
	}
	return 0, impl.ErrNotFound
}

// localDate tells what LocalDate has to return.
func (w *walk) localDate(reform int64, n int64) (impl.Date, int64) {
	if !isReform(reform) {
		return impl.Date{}, impl.ErrInvalid
	}
	if n < 0 || n > impl.MaxDay {
		return impl.Date{}, impl.ErrRange
	}
	if n < reform {
		return w.oldDates[n], impl.ErrNone
	}
	if n > lastNewDay {
		return impl.Date{}, impl.ErrNotFound
	}
	return w.newDates[n], impl.ErrNone
}

// yearLength counts the days of a year one by one, from some days before its old January 1 on.
func (w *walk) yearLength(reform int64, year int64) int64 {
	first := w.oldNumbers[place(impl.Date{Year: year, Month: 1, Day: 1})]
	count := int64(0)
	for n := max(0, first-20); n <= min(impl.MaxDay, first+400); n++ {
		if d, code := w.localDate(reform, n); code == impl.ErrNone && d.Year == year {
			count++
		}
	}
	return count
}

// checkLocalDay compares LocalDay and IsLocal with the reference.
func checkLocalDay(t *testing.T, reform int64, d impl.Date) {
	t.Helper()
	c := impl.Calendar{Reform: reform}
	want, wantCode := walked().localDay(reform, d)
	if n, code := impl.LocalDay(c, d); n != want || code != wantCode {
		t.Errorf("LocalDay(%v, %v) = %d, %d; want %d, %d", c, d, n, code, want, wantCode)
	}
	local := wantCode == impl.ErrNone
	if wantCode == impl.ErrNotFound {
		wantCode = impl.ErrNone
	}
	if is, code := impl.IsLocal(c, d); is != local || code != wantCode {
		t.Errorf("IsLocal(%v, %v) = %v, %d; want %v, %d", c, d, is, code, local, wantCode)
	}
}

// checkLocalDate compares LocalDate with the reference.
func checkLocalDate(t *testing.T, reform int64, n int64) {
	t.Helper()
	c := impl.Calendar{Reform: reform}
	want, wantCode := walked().localDate(reform, n)
	if d, code := impl.LocalDate(c, n); d != want || code != wantCode {
		t.Errorf("LocalDate(%v, %d) = %v, %d; want %v, %d", c, n, d, code, want, wantCode)
	}
}

// checkYearLength compares DaysOfYear with the reference.
func checkYearLength(t *testing.T, reform int64, year int64) {
	t.Helper()
	c := impl.Calendar{Reform: reform}
	want, wantCode := int64(0), int64(impl.ErrNone)
	if !isReform(reform) {
		wantCode = impl.ErrInvalid
	} else if year < 1 || year > 2000 {
		wantCode = impl.ErrRange
	} else {
		want = walked().yearLength(reform, year)
	}
	if n, code := impl.DaysOfYear(c, year); n != want || code != wantCode {
		t.Errorf("DaysOfYear(%v, %d) = %d, %d; want %d, %d", c, year, n, code, want, wantCode)
	}
}

// checkSkipped compares SkippedDates with the reference.
func checkSkipped(t *testing.T, reform int64) {
	t.Helper()
	c := impl.Calendar{Reform: reform}
	want, wantCode := int64(0), int64(impl.ErrNone)
	if !isReform(reform) {
		wantCode = impl.ErrInvalid
	} else if reform == noReform {
		wantCode = impl.ErrNotFound
	} else {
		want = walked().oldNumbers[place(walked().newDates[reform])] - reform
	}
	if n, code := impl.SkippedDates(c); n != want || code != wantCode {
		t.Errorf("SkippedDates(%v) = %d, %d; want %d, %d", c, n, code, want, wantCode)
	}
}

// checkSameDay compares SameDay with the reference.
func checkSameDay(t *testing.T, one int64, d impl.Date, two int64, e impl.Date) {
	t.Helper()
	n, code := walked().localDay(one, d)
	m, otherCode := walked().localDay(two, e)
	wantCode := int64(impl.ErrNone)
	if code == impl.ErrInvalid || otherCode == impl.ErrInvalid {
		wantCode = impl.ErrInvalid
	} else if code != impl.ErrNone || otherCode != impl.ErrNone {
		wantCode = impl.ErrNotFound
	}
	want := wantCode == impl.ErrNone && n == m
	same, got := impl.SameDay(impl.Calendar{Reform: one}, d, impl.Calendar{Reform: two}, e)
	if same != want || got != wantCode {
		t.Errorf("SameDay(%d, %v, %d, %v) = %v, %d; want %v, %d", one, d, two, e, same, got, want, wantCode)
	}
}

// reforms are the first and the last ones, none, those of Rome and London, one that skips February 29,
// one before and one behind it, and some that skip the turn of a year, from its first day to its last.
var reforms = []int64{
	firstReform, firstReform + 1, romeReform - 1, romeReform, romeReform + 1, londonReform, 700215,
	620607, 620608, 620619, 577815, 577814, 620914, 620918, 620924, 620925, lastReform - 1, lastReform, noReform,
}

// badReforms are those just outside, some between the last one and none, and the extremes.
func badReforms() []int64 {
	return append([]int64{0, 1, firstReform - 1, lastReform + 1, lastReform + 2, impl.MaxDay - 1, impl.MaxDay, noReform + 1, noReform + 2}, extremes...)
}

// datesAt tells the old and the new dates of a day and those on both sides of it, and February 29 of
// the year.
func datesAt(n int64, around int64) []impl.Date {
	var dates []impl.Date
	for k := max(0, n-around); k <= min(impl.MaxDay, n+around); k++ {
		dates = append(dates, walked().oldDates[k])
		if k >= firstNewDay && k <= lastNewDay {
			dates = append(dates, walked().newDates[k])
		}
	}
	if len(dates) > 0 {
		dates = append(dates, impl.Date{Year: dates[0].Year, Month: 2, Day: 29})
	}
	return dates
}

// TestEachDayHasOneLocalDate is promise 3: each day up to the last new date has a local date and is
// found from it, and no other date is local.
func TestEachDayHasOneLocalDate(t *testing.T) {
	for _, reform := range reforms {
		c := impl.Calendar{Reform: reform}
		days := int64(lastNewDay + 1)
		if reform == noReform {
			days = impl.MaxDay + 1
		}
		for n := range days {
			d, code := impl.LocalDate(c, n)
			if want, _ := walked().localDate(reform, n); d != want || code != impl.ErrNone {
				t.Fatalf("LocalDate(%v, %d) = %v, %d; want %v", c, n, d, code, want)
			}
			if back, code := impl.LocalDay(c, d); back != n || code != impl.ErrNone {
				t.Fatalf("LocalDay(%v, %v) = %d, %d; want %d", c, d, back, code, n)
			}
		}
		count, length := int64(0), int64(0)
		for year := int64(1); year <= 2000; year++ {
			for month := int64(1); month <= 12; month++ {
				for day := int64(1); day <= 31; day++ {
					if is, _ := impl.IsLocal(c, impl.Date{Year: year, Month: month, Day: day}); is {
						count++
					}
				}
			}
			n, _ := impl.DaysOfYear(c, year)
			length += n
		}
		if count != days || length != days {
			t.Errorf("%v: %d local dates, %d days in all years; want %d", c, count, length, days)
		}
	}
}

// TestMonthsOfAllYears asks for the ends of all months, for those that are none, and for the lengths of
// all years, at places with some reforms.
func TestMonthsOfAllYears(t *testing.T) {
	for _, reform := range reforms {
		for year := int64(-1); year <= 2002; year++ {
			for month := int64(0); month <= 13; month++ {
				for _, day := range []int64{0, 1, 11, 12, 13, 28, 29, 30, 31, 32} {
					checkLocalDay(t, reform, impl.Date{Year: year, Month: month, Day: day})
				}
			}
			checkYearLength(t, reform, year)
		}
	}
}

// TestAroundEachReform takes every sixty-first reform, and each one that may skip a turn of the year or
// February 29 of a year that is a leap year in the old calendar only.
func TestAroundEachReform(t *testing.T) {
	for reform := int64(firstReform); reform <= lastReform; reform++ {
		checkSkipped(t, reform)
		d := walked().oldDates[reform]
		turn := d.Month == 12 && d.Day > 15 || d.Month == 1 && d.Day < 5
		leap := d.Month < 4 && d.Year%100 == 0
		if reform%61 != 0 && !turn && !leap {
			continue
		}
		for _, d := range datesAt(reform, 16) {
			checkLocalDay(t, reform, d)
		}
		for _, by := range []int64{-14, -1, 0, 1, 14} {
			checkLocalDate(t, reform, reform+by)
		}
		for year := d.Year - 1; year <= min(d.Year+1, 2000); year++ {
			checkYearLength(t, reform, year)
		}
	}
}

// TestSkippedDates follows the dates that are skipped one by one: the old dates from the day of the
// reform on, up to the day before the new date of this day.
func TestSkippedDates(t *testing.T) {
	for _, c := range []struct{ reform, skipped int64 }{
		{firstReform, 2}, {firstReform + 1, 2}, {romeReform - 1, 10}, {romeReform, 10}, {577803, 10}, {577815, 10}, {584083, 10},
		{620607, 10}, {620608, 11}, {londonReform, 11}, {657132, 12}, {693656, 13}, {700215, 13}, {lastReform - 1, 13}, {lastReform, 13},
	} {
		place := impl.Calendar{Reform: c.reform}
		if n, code := impl.SkippedDates(place); n != c.skipped || code != impl.ErrNone {
			t.Errorf("SkippedDates(%v) = %d, %d; want %d", place, n, code, c.skipped)
		}
		for k := range c.skipped {
			d := walked().oldDates[c.reform+k]
			if n, code := impl.LocalDay(place, d); n != 0 || code != impl.ErrNotFound {
				t.Errorf("LocalDay(%v, %v) = %d, %d, but %v is skipped", place, d, n, code, d)
			}
			if is, code := impl.IsLocal(place, d); is || code != impl.ErrNone {
				t.Errorf("IsLocal(%v, %v) = %v, %d, but %v is skipped", place, d, is, code, d)
			}
		}
		before, first := walked().oldDates[c.reform-1], walked().oldDates[c.reform+c.skipped]
		if n, code := impl.LocalDay(place, before); n != c.reform-1 || code != impl.ErrNone {
			t.Errorf("LocalDay(%v, %v) = %d, %d", place, before, n, code)
		}
		if n, code := impl.LocalDay(place, first); n != c.reform || code != impl.ErrNone {
			t.Errorf("LocalDay(%v, %v) = %d, %d", place, first, n, code)
		}
	}
	checkSkipped(t, noReform)
}

// TestKnownPlaces has the dates of reforms that are told in books.
func TestKnownPlaces(t *testing.T) {
	for _, c := range []struct {
		reform int64
		n      int64
		d      impl.Date
	}{
		{romeReform, 0, impl.Date{Year: 1, Month: 1, Day: 1}},
		{romeReform, 1, impl.Date{Year: 1, Month: 1, Day: 2}},
		{romeReform, 433370, impl.Date{Year: 1187, Month: 7, Day: 4}},
		{romeReform, romeReform - 1, impl.Date{Year: 1582, Month: 10, Day: 4}},
		{romeReform, romeReform, impl.Date{Year: 1582, Month: 10, Day: 15}},
		{romeReform, romeReform + 1, impl.Date{Year: 1582, Month: 10, Day: 16}},
		{romeReform, lastNewDay, impl.Date{Year: 2000, Month: 12, Day: 31}},
		{londonReform, romeReform, impl.Date{Year: 1582, Month: 10, Day: 5}},
		{londonReform, londonReform - 1, impl.Date{Year: 1752, Month: 9, Day: 2}},
		{londonReform, londonReform, impl.Date{Year: 1752, Month: 9, Day: 14}},
		{700215, 700214, impl.Date{Year: 1918, Month: 1, Day: 31}},
		{700215, 700215, impl.Date{Year: 1918, Month: 2, Day: 14}},
		{noReform, 700215, impl.Date{Year: 1918, Month: 2, Day: 1}},
		{noReform, impl.MaxDay, impl.Date{Year: 2000, Month: 12, Day: 31}},
		{lastReform, lastReform - 1, impl.Date{Year: 2000, Month: 12, Day: 17}},
		{lastReform, lastReform, impl.Date{Year: 2000, Month: 12, Day: 31}},
		{firstReform, firstReform - 1, impl.Date{Year: 548, Month: 7, Day: 27}},
		{firstReform, firstReform, impl.Date{Year: 548, Month: 7, Day: 30}},
	} {
		place := impl.Calendar{Reform: c.reform}
		if d, code := impl.LocalDate(place, c.n); d != c.d || code != impl.ErrNone {
			t.Errorf("LocalDate(%v, %d) = %v, %d; want %v", place, c.n, d, code, c.d)
		}
		if n, code := impl.LocalDay(place, c.d); n != c.n || code != impl.ErrNone {
			t.Errorf("LocalDay(%v, %v) = %d, %d; want %d", place, c.d, n, code, c.n)
		}
		if is, code := impl.IsLocal(place, c.d); !is || code != impl.ErrNone {
			t.Errorf("IsLocal(%v, %v) = %v, %d", place, c.d, is, code)
		}
	}
}

// TestLeapDaysOfPlaces asks for February 29 of 1700, which only the old calendar has.
func TestLeapDaysOfPlaces(t *testing.T) {
	d := impl.Date{Year: 1700, Month: 2, Day: 29}
	for _, c := range []struct{ reform, n, code int64 }{
		{romeReform, 0, impl.ErrNotFound}, {620608, 0, impl.ErrNotFound}, {620618, 0, impl.ErrNotFound},
		{620619, 620618, impl.ErrNone}, {londonReform, 620618, impl.ErrNone}, {noReform, 620618, impl.ErrNone},
	} {
		if n, code := impl.LocalDay(impl.Calendar{Reform: c.reform}, d); n != c.n || code != c.code {
			t.Errorf("LocalDay(%d, %v) = %d, %d; want %d, %d", c.reform, d, n, code, c.n, c.code)
		}
	}
}

func TestDaysOfKnownYears(t *testing.T) {
	for _, c := range []struct{ reform, year, days int64 }{
		{romeReform, 1, 365}, {romeReform, 4, 366}, {romeReform, 1500, 366}, {romeReform, 1581, 365}, {romeReform, 1582, 355}, {romeReform, 1583, 365},
		{romeReform, 1584, 366}, {romeReform, 1600, 366}, {romeReform, 1700, 365}, {romeReform, 1900, 365}, {romeReform, 2000, 366},
		{londonReform, 1700, 366}, {londonReform, 1751, 365}, {londonReform, 1752, 355}, {londonReform, 1753, 365}, {londonReform, 1800, 365},
		{firstReform, 1, 365}, {firstReform, 547, 365}, {firstReform, 548, 364}, {firstReform, 549, 365}, {firstReform, 600, 365}, {firstReform, 2000, 366},
		{lastReform, 1, 365}, {lastReform, 1999, 365}, {lastReform, 2000, 353}, {lastReform - 1, 2000, 353},
		{noReform, 1, 365}, {noReform, 4, 366}, {noReform, 1700, 366}, {noReform, 1900, 366}, {noReform, 1999, 365}, {noReform, 2000, 366},
		// New January 1, 5, 11 and 12, 1701, then the last day of 1700 and the first one of 1701 that are not skipped.
		{620914, 1700, 355}, {620914, 1701, 365}, {620918, 1700, 359}, {620918, 1701, 361}, {620924, 1700, 365}, {620924, 1701, 355},
		{620925, 1700, 366}, {620925, 1701, 354}, {620913, 1700, 355}, {620913, 1701, 365},
		{620608, 1700, 355}, {620619, 1700, 355}, {620607, 1700, 355},
	} {
		if n, code := impl.DaysOfYear(impl.Calendar{Reform: c.reform}, c.year); n != c.days || code != impl.ErrNone {
			t.Errorf("DaysOfYear(%d, %d) = %d, %d; want %d", c.reform, c.year, n, code, c.days)
		}
	}
}

// TestDaysBehindTheLastNewDate asks for all days that have no new date.
func TestDaysBehindTheLastNewDate(t *testing.T) {
	for _, reform := range reforms {
		for n := int64(lastNewDay - 1); n <= impl.MaxDay+2; n++ {
			checkLocalDate(t, reform, n)
		}
		for n := int64(-2); n <= 3; n++ {
			checkLocalDate(t, reform, n)
		}
	}
	if d, code := impl.LocalDate(impl.Calendar{Reform: lastReform}, lastNewDay+1); d != (impl.Date{}) || code != impl.ErrNotFound {
		t.Errorf("LocalDate = %v, %d", d, code)
	}
	// These dates are old ones behind the reform: the same dates of the new calendar come earlier.
	for n := int64(lastNewDay + 1); n <= impl.MaxDay; n++ {
		d := walked().oldDates[n]
		if day, code := impl.LocalDay(impl.Calendar{Reform: romeReform}, d); day != n-13 || code != impl.ErrNone {
			t.Errorf("LocalDay(%v) = %d, %d", d, day, code)
		}
	}
}

func TestLimitsOfReforms(t *testing.T) {
	for _, c := range []struct {
		reform int64
		valid  bool
	}{
		{firstReform - 1, false}, {firstReform, true}, {firstReform + 1, true}, {lastReform - 1, true}, {lastReform, true}, {lastReform + 1, false},
		{impl.MaxDay, false}, {impl.MaxDay + 1, true}, {impl.MaxDay + 2, false}, {0, false},
	} {
		if is := impl.IsCalendar(impl.Calendar{Reform: c.reform}); is != c.valid {
			t.Errorf("IsCalendar(%d) = %v", c.reform, is)
		}
	}
	for n := int64(-10); n <= impl.MaxDay+1000; n++ {
		if impl.IsCalendar(impl.Calendar{Reform: n}) != isReform(n) {
			t.Errorf("IsCalendar(%d) = %v", n, !isReform(n))
		}
	}
}

// TestInvalidCalendars gives calendars that are not valid to every function, with other arguments that
// are as told and with others that are not: the calendar is what counts.
func TestInvalidCalendars(t *testing.T) {
	for _, reform := range badReforms() {
		c := impl.Calendar{Reform: reform}
		if impl.IsCalendar(c) {
			t.Errorf("IsCalendar(%v) = true", c)
		}
		checkSkipped(t, reform)
		for _, n := range append([]int64{0, 1, 5, 1582, 2000, 2001, romeReform, impl.MaxDay, impl.MaxDay + 1}, extremes...) {
			checkLocalDate(t, reform, n)
			checkYearLength(t, reform, n)
			for _, d := range []impl.Date{{Year: n, Month: 1, Day: 1}, {Year: 1582, Month: n, Day: 1}, {Year: 1582, Month: 10, Day: n}} {
				checkLocalDay(t, reform, d)
				checkSameDay(t, reform, d, romeReform, d)
				checkSameDay(t, romeReform, d, reform, d)
				checkSameDay(t, reform, d, reform, d)
			}
		}
	}
}

// TestDatesDaysAndYearsThatAreNone gives them to valid calendars.
func TestDatesDaysAndYearsThatAreNone(t *testing.T) {
	values := append([]int64{0, 1, 2, 12, 13, 29, 31, 32, 2000, 2001}, extremes...)
	for _, reform := range []int64{firstReform, romeReform, lastReform, noReform} {
		for _, n := range values {
			checkLocalDate(t, reform, n)
			checkYearLength(t, reform, n)
			for _, month := range values {
				for _, day := range values {
					checkLocalDay(t, reform, impl.Date{Year: n, Month: month, Day: day})
				}
			}
		}
		for _, n := range []int64{impl.MaxDay, impl.MaxDay + 1, impl.MaxDay + 2} {
			checkLocalDate(t, reform, n)
		}
		for _, d := range []impl.Date{{}, {Year: 1582, Month: 2, Day: 29}, {Year: 1900, Month: 2, Day: 30}, {Year: 1582, Month: 10, Day: 32}, {Year: 1582, Month: 13, Day: 1}} {
			if n, code := impl.LocalDay(impl.Calendar{Reform: reform}, d); n != 0 || code != impl.ErrInvalid {
				t.Errorf("LocalDay(%d, %v) = %d, %d", reform, d, n, code)
			}
			if is, code := impl.IsLocal(impl.Calendar{Reform: reform}, d); is || code != impl.ErrInvalid {
				t.Errorf("IsLocal(%d, %v) = %v, %d", reform, d, is, code)
			}
		}
	}
}

// TestSameDaysAtTwoPlaces compares all pairs of dates near the reforms of two places.
func TestSameDaysAtTwoPlaces(t *testing.T) {
	places := []int64{firstReform, romeReform, romeReform + 1, londonReform, lastReform, noReform, firstReform - 1}
	for _, one := range places {
		for _, two := range places {
			for _, n := range []int64{1, firstReform, romeReform, 620618, londonReform, lastReform, impl.MaxDay - 3} {
				dates := datesAt(n, 12)
				for _, d := range dates {
					for _, e := range dates {
						checkSameDay(t, one, d, two, e)
					}
				}
			}
		}
	}
}

func TestSameDaysAreKnown(t *testing.T) {
	rome, london, never := impl.Calendar{Reform: romeReform}, impl.Calendar{Reform: londonReform}, impl.Calendar{Reform: noReform}
	may, april := impl.Date{Year: 1616, Month: 5, Day: 3}, impl.Date{Year: 1616, Month: 4, Day: 23}
	skipped := impl.Date{Year: 1582, Month: 10, Day: 10}
	none := impl.Date{Year: 1582, Month: 2, Day: 29}
	bad := impl.Calendar{Reform: firstReform - 1}
	for i, c := range []struct {
		c    impl.Calendar
		d    impl.Date
		o    impl.Calendar
		e    impl.Date
		same bool
		code int64
	}{
		{rome, may, london, april, true, impl.ErrNone},
		{london, april, rome, may, true, impl.ErrNone},
		{never, april, rome, may, true, impl.ErrNone},
		{rome, april, london, april, false, impl.ErrNone},
		{rome, may, london, may, false, impl.ErrNone},
		{rome, april, rome, april, true, impl.ErrNone},
		{london, april, never, april, true, impl.ErrNone},
		{rome, skipped, london, april, false, impl.ErrNotFound},
		{london, april, rome, skipped, false, impl.ErrNotFound},
		{rome, skipped, rome, skipped, false, impl.ErrNotFound},
		{london, skipped, never, skipped, true, impl.ErrNone},
		{rome, skipped, bad, april, false, impl.ErrInvalid},
		{rome, skipped, london, none, false, impl.ErrInvalid},
		{bad, april, rome, skipped, false, impl.ErrInvalid},
		{london, none, rome, skipped, false, impl.ErrInvalid},
		{bad, april, london, april, false, impl.ErrInvalid},
		{london, april, bad, april, false, impl.ErrInvalid},
		{london, none, london, april, false, impl.ErrInvalid},
		{london, april, london, none, false, impl.ErrInvalid},
	} {
		if same, code := impl.SameDay(c.c, c.d, c.o, c.e); same != c.same || code != c.code {
			t.Errorf("%d: SameDay = %v, %d; want %v, %d", i, same, code, c.same, c.code)
		}
	}
}

// TestRandomPlaces compares every function with the reference at places with any reform.
func TestRandomPlaces(t *testing.T) {
	random := rand.New(rand.NewSource(4))
	for range 20000 {
		one := firstReform - 50 + random.Int63n(lastReform-firstReform+100)
		two := firstReform + random.Int63n(lastReform-firstReform)
		n := random.Int63n(impl.MaxDay + 100)
		d := impl.Date{Year: random.Int63n(2002), Month: random.Int63n(14), Day: random.Int63n(33)}
		checkLocalDay(t, one, d)
		checkLocalDate(t, one, n)
		checkYearLength(t, one, d.Year)
		e, _ := walked().localDate(two, min(n, lastNewDay))
		checkSameDay(t, one, d, two, e)
		if f, code := walked().localDate(one, min(n, lastNewDay)); code == impl.ErrNone {
			checkSameDay(t, one, f, two, e)
		}
	}
}
