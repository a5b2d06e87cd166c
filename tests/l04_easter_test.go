package tests

import (
	"fmt"
	"math/rand"
	"os"
	"os/exec"
	"slices"
	"strings"
	"sync"
	"testing"

	"loop.example/g01034/impl"
)

// firstNewEaster is the first year whose Easter the new rule tells.
const firstNewEaster = 1583

// easters holds, by year, the full moons of the old rule and the days of Easter by both rules. They are
// found without the document's formulas: the moons come from the tables that were printed in calendars,
// and Easter from going on from the moon, day by day, to the next Sunday. Years without one have 0.
type easters struct {
	moons, old, new [2001]int64
}

var easterDays = sync.OnceValue(func() *easters {
	e := &easters{}
	for year := int64(1); year <= 2000; year++ {
		e.moons[year] = walked().oldNumbers[place(oldMoon(year))]
		e.old[year] = sundayBehind(e.moons[year])
		if year >= firstNewEaster {
			e.new[year] = sundayBehind(walked().newNumbers[place(newMoon(year))])
		}
	}
	return e
})

// marchDay tells the date that is some days behind March 21.
func marchDay(year int64, delay int64) impl.Date {
	if delay > 10 {
		return impl.Date{Year: year, Month: 4, Day: delay - 10}
	}
	return impl.Date{Year: year, Month: 3, Day: 21 + delay}
}

// oldMoon tells the date of the full moon of a year by the table of golden numbers 1 to 19.
func oldMoon(year int64) impl.Date {
	moons := [...]struct{ month, day int64 }{
		{4, 5}, {3, 25}, {4, 13}, {4, 2}, {3, 22}, {4, 10}, {3, 30}, {4, 18}, {4, 7}, {3, 27},
		{4, 15}, {4, 4}, {3, 24}, {4, 12}, {4, 1}, {3, 21}, {4, 9}, {3, 29}, {4, 17},
	}
	moon := moons[year%19]
	return impl.Date{Year: year, Month: moon.month, Day: moon.day}
}

// newMoon tells the date of the full moon of a year by its epact, which goes on by 11 from year to year;
// the one of the golden number 1 was 1 first, 0 from 1700 on, and 29 from 1900 on.
func newMoon(year int64) impl.Date {
	epact := int64(1)
	if year >= 1700 {
		epact = 0
	}
	if year >= 1900 {
		epact = 29
	}
	golden := year%19 + 1
	epact = (epact + 11*(golden-1)) % 30
	switch {
	case epact <= 23:
		return marchDay(year, 23-epact)
	case epact == 24, epact == 25 && golden > 11:
		return marchDay(year, 52-epact)
	default:
		return marchDay(year, 53-epact)
	}
}

// sundayBehind tells the first Sunday behind a day; the day 0 is a Saturday.
func sundayBehind(n int64) int64 {
	n++
	for n%7 != 1 {
		n++
	}
	return n
}

// isYear tells whether a year has the calendars' days.
func isYear(year int64) bool { return year >= 1 && year <= 2000 }

// localEaster tells what LocalEaster has to return.
func localEaster(reform int64, year int64) (int64, int64) {
	if !isReform(reform) {
		return 0, impl.ErrInvalid
	}
	if !isYear(year) {
		return 0, impl.ErrRange
	}
	old, new := easterDays().old[year], easterDays().new[year]
	switch {
	case old < reform:
		return old, impl.ErrNone
	case year < firstNewEaster || new < reform:
		return 0, impl.ErrNotFound
	}
	return new, impl.ErrNone
}

// yearsWith tells what YearsWithEaster has to return.
func yearsWith(month int64, day int64, from int64, to int64) ([]int64, int64) {
	d := impl.Date{Year: 4, Month: month, Day: day}
	if !isYear(from) || !isYear(to) || from > to || from < to-600 || numberIn(walked().oldNumbers, d) < 0 {
		return nil, impl.ErrRange
	}
	var years []int64
	for year := from; year <= to; year++ {
		if walked().oldDates[easterDays().old[year]] == (impl.Date{Year: year, Month: month, Day: day}) {
			years = append(years, year)
		}
	}
	return years, impl.ErrNone
}

func checkLocalEaster(t *testing.T, reform int64, year int64) {
	t.Helper()
	want, wantCode := localEaster(reform, year)
	if n, code := impl.LocalEaster(impl.Calendar{Reform: reform}, year); n != want || code != wantCode {
		t.Errorf("LocalEaster(%d, %d) = %d, %d; want %d, %d", reform, year, n, code, want, wantCode)
	}
}

func checkYearsWith(t *testing.T, month int64, day int64, from int64, to int64) {
	t.Helper()
	want, wantCode := yearsWith(month, day, from, to)
	if list, code := impl.YearsWithEaster(month, day, from, to); !slices.Equal(list, want) || code != wantCode {
		t.Errorf("YearsWithEaster(%d, %d, %d, %d) = %v, %d; want %v, %d", month, day, from, to, list, code, want, wantCode)
	}
}

// TestEasterIsTheFirstSundayBehindTheFullMoon is promise 4.
func TestEasterIsTheFirstSundayBehindTheFullMoon(t *testing.T) {
	for year := int64(1); year <= 2000; year++ {
		term, code := impl.EasterTerm(year)
		if term != easterDays().moons[year] || code != impl.ErrNone {
			t.Errorf("EasterTerm(%d) = %d, %d; want %d", year, term, code, easterDays().moons[year])
		}
		n, code := impl.OldEaster(year)
		if n != easterDays().old[year] || code != impl.ErrNone {
			t.Errorf("OldEaster(%d) = %d, %d; want %d", year, n, code, easterDays().old[year])
		}
		if w, _ := impl.WeekdayOf(n); w != 6 {
			t.Errorf("OldEaster(%d) has the weekday %d", year, w)
		}
		if n <= term || n > term+7 {
			t.Errorf("OldEaster(%d) = %d, but the full moon is on %d", year, n, term)
		}
		checkEasterDate(t, year, walked().oldDates[n])
	}
}

// checkEasterDate wants a date from March 22 to April 25 of the year.
func checkEasterDate(t *testing.T, year int64, d impl.Date) {
	t.Helper()
	march, april := d.Month == 3 && d.Day >= 22, d.Month == 4 && d.Day <= 25
	if d.Year != year || !march && !april {
		t.Errorf("Easter of %d on %v", year, d)
	}
}

// TestEastersByTheFormulas compares all years with the document's formulas, written out as they stand
// there; all quotients in them are of numbers that are not negative.
func TestEastersByTheFormulas(t *testing.T) {
	for year := int64(1); year <= 2000; year++ {
		a, b, c := year%4, year%7, year%19
		p := (19*c + 15) % 30
		q := (2*a + 4*b - p + 34) % 7
		s := p + q + 114
		old := walked().oldNumbers[place(impl.Date{Year: year, Month: s / 31, Day: s%31 + 1})]
		if n, code := impl.OldEaster(year); n != old || code != impl.ErrNone {
			t.Errorf("OldEaster(%d) = %d, %d; want %d", year, n, code, old)
		}
		if year < firstNewEaster {
			continue
		}
		k := year / 100
		h := (19*c + k - k/4 - (8*k+13)/25 + 15) % 30
		i := h - (h/28)*(1-(29/(h+1))*((21-c)/11))
		j := (year + year/4 + i + 2 - k + k/4) % 7
		l := i - j
		month := 3 + (l+40)/44
		new := walked().newNumbers[place(impl.Date{Year: year, Month: month, Day: l + 28 - 31*(month/4)})]
		if n, code := impl.NewEaster(year); n != new || code != impl.ErrNone {
			t.Errorf("NewEaster(%d) = %d, %d; want %d", year, n, code, new)
		}
	}
}

func TestNewEasters(t *testing.T) {
	for year := int64(-1); year <= 2002; year++ {
		n, code := impl.NewEaster(year)
		if year < firstNewEaster || year > 2000 {
			if n != 0 || code != impl.ErrRange {
				t.Errorf("NewEaster(%d) = %d, %d", year, n, code)
			}
			continue
		}
		if n != easterDays().new[year] || code != impl.ErrNone {
			t.Errorf("NewEaster(%d) = %d, %d; want %d", year, n, code, easterDays().new[year])
		}
		if w, _ := impl.WeekdayOf(n); w != 6 {
			t.Errorf("NewEaster(%d) has the weekday %d", year, w)
		}
		checkEasterDate(t, year, walked().newDates[n])
	}
}

// TestKnownOldEasters has the first and the last year, the earliest and the latest Easter, and Easters
// of which books tell.
func TestKnownOldEasters(t *testing.T) {
	for _, d := range []impl.Date{
		{Year: 1, Month: 3, Day: 27}, {Year: 2, Month: 4, Day: 16}, {Year: 1014, Month: 4, Day: 25}, {Year: 1066, Month: 4, Day: 16},
		{Year: 1109, Month: 4, Day: 25}, {Year: 1136, Month: 3, Day: 22}, {Year: 1204, Month: 4, Day: 25}, {Year: 1215, Month: 4, Day: 19},
		{Year: 1282, Month: 3, Day: 29}, {Year: 1285, Month: 3, Day: 25}, {Year: 1348, Month: 4, Day: 20}, {Year: 1383, Month: 3, Day: 22},
		{Year: 1461, Month: 4, Day: 5}, {Year: 1582, Month: 4, Day: 15}, {Year: 1583, Month: 3, Day: 31}, {Year: 1584, Month: 4, Day: 19},
		{Year: 1752, Month: 3, Day: 29}, {Year: 1916, Month: 4, Day: 10}, {Year: 1999, Month: 3, Day: 29}, {Year: 2000, Month: 4, Day: 17},
	} {
		if n, code := impl.OldEaster(d.Year); n != walked().oldNumbers[place(d)] || code != impl.ErrNone {
			t.Errorf("OldEaster(%d) = %d, %d, which is %v; want %v", d.Year, n, code, walked().oldDates[n], d)
		}
		if list, code := impl.YearsWithEaster(d.Month, d.Day, d.Year, d.Year); !slices.Equal(list, []int64{d.Year}) || code != impl.ErrNone {
			t.Errorf("YearsWithEaster for %v = %v, %d", d, list, code)
		}
	}
}

// TestKnownNewEasters has the first and the last year, the earliest and the latest Easter, and those
// that are a week earlier than the epact alone would have them.
func TestKnownNewEasters(t *testing.T) {
	for _, d := range []impl.Date{
		{Year: 1583, Month: 4, Day: 10}, {Year: 1584, Month: 4, Day: 1}, {Year: 1598, Month: 3, Day: 22}, {Year: 1600, Month: 4, Day: 2},
		{Year: 1609, Month: 4, Day: 19}, {Year: 1666, Month: 4, Day: 25}, {Year: 1693, Month: 3, Day: 22}, {Year: 1700, Month: 4, Day: 11},
		{Year: 1734, Month: 4, Day: 25}, {Year: 1761, Month: 3, Day: 22}, {Year: 1800, Month: 4, Day: 13}, {Year: 1818, Month: 3, Day: 22},
		{Year: 1886, Month: 4, Day: 25}, {Year: 1900, Month: 4, Day: 15}, {Year: 1916, Month: 4, Day: 23}, {Year: 1943, Month: 4, Day: 25},
		{Year: 1954, Month: 4, Day: 18}, {Year: 1981, Month: 4, Day: 19}, {Year: 1999, Month: 4, Day: 4}, {Year: 2000, Month: 4, Day: 23},
	} {
		if n, code := impl.NewEaster(d.Year); n != walked().newNumbers[place(d)] || code != impl.ErrNone {
			t.Errorf("NewEaster(%d) = %d, %d, which is %v; want %v", d.Year, n, code, walked().newDates[n], d)
		}
	}
}

// checkEasterYear compares all functions of a year but LocalEaster with the reference; a year outside
// its range has to give ErrRange and zeros.
func checkEasterYear(t *testing.T, year int64) {
	t.Helper()
	want := [6]int64{}
	code, newCode := int64(impl.ErrRange), int64(impl.ErrRange)
	if isYear(year) {
		before, behind := sundayLetters(year)
		want = [6]int64{easterDays().old[year], easterDays().new[year], easterDays().moons[year], goldenNumber(year), before, behind}
		code = impl.ErrNone
	}
	if isYear(year) && year >= firstNewEaster {
		newCode = impl.ErrNone
	}
	old, oldGot := impl.OldEaster(year)
	new, newGot := impl.NewEaster(year)
	moon, moonGot := impl.EasterTerm(year)
	golden, goldenGot := impl.GoldenNumber(year)
	before, behind, lettersGot := impl.SundayLetters(year)
	if got := [6]int64{old, new, moon, golden, before, behind}; got != want {
		t.Errorf("year %d: old, new, term, golden number, letters = %v; want %v", year, got, want)
	}
	codes, wantCodes := [5]int64{oldGot, newGot, moonGot, goldenGot, lettersGot}, [5]int64{code, newCode, code, code, code}
	if codes != wantCodes {
		t.Errorf("year %d: codes %v; want %v", year, codes, wantCodes)
	}
}

// goldenNumber counts from the year 1, which has 2, to 19 and begins again.
func goldenNumber(year int64) int64 {
	golden := int64(1)
	for range year {
		golden++
		if golden == 20 {
			golden = 1
		}
	}
	return golden
}

// sundayLetters gives a letter to each day of an old year, one after the other, and tells those of the
// Sundays before February 29 and from March 1 on.
func sundayLetters(year int64) (int64, int64) {
	first := walked().oldNumbers[place(impl.Date{Year: year, Month: 1, Day: 1})]
	before, behind, letter := int64(-1), int64(-1), int64(0)
	for n := first; n <= impl.MaxDay && walked().oldDates[n].Year == year; n++ {
		d := walked().oldDates[n]
		if d.Month == 2 && d.Day == 29 {
			continue
		}
		sunday := n%7 == 1
		if sunday && d.Month <= 2 {
			before = letter
		} else if sunday {
			behind = letter
		}
		letter = (letter + 1) % 7
	}
	return before, behind
}

func TestAllYearsOfEaster(t *testing.T) {
	for year := int64(-2); year <= 2003; year++ {
		checkEasterYear(t, year)
	}
}

func TestYearsThatHaveNoEaster(t *testing.T) {
	for _, year := range append([]int64{0, 2001, 2002, 2532, 3583, 9999}, extremes...) {
		checkEasterYear(t, year)
		for _, reform := range append([]int64{firstReform, romeReform, noReform, impl.MaxDay}, extremes...) {
			checkLocalEaster(t, reform, year)
		}
		for _, by := range extremes {
			checkEasterYear(t, year+by)
		}
	}
}

func TestKnownGoldenNumbers(t *testing.T) {
	for _, c := range []struct{ year, golden int64 }{{1, 2}, {17, 18}, {18, 19}, {19, 1}, {20, 2}, {1215, 19}, {1216, 1}, {1582, 6}, {1999, 5}, {2000, 6}} {
		if golden, code := impl.GoldenNumber(c.year); golden != c.golden || code != impl.ErrNone {
			t.Errorf("GoldenNumber(%d) = %d, %d; want %d", c.year, golden, code, c.golden)
		}
	}
}

// TestKnownSundayLetters has leap years, among them 1700, 1800 and 1900, which are none in the new
// calendar, and other years.
func TestKnownSundayLetters(t *testing.T) {
	for _, c := range []struct {
		year           int64
		before, behind int64
	}{
		{1, 1, 1}, {2, 0, 0}, {3, 6, 6}, {4, 5, 4}, {1100, 0, 6}, {1200, 1, 0}, {1204, 3, 2}, {1215, 3, 3}, {1582, 6, 6}, {1583, 5, 5}, {1584, 4, 3},
		{1600, 5, 4}, {1699, 0, 0}, {1700, 6, 5}, {1701, 4, 4}, {1800, 0, 6}, {1900, 1, 0}, {1996, 0, 6}, {1999, 3, 3}, {2000, 2, 1},
	} {
		before, behind, code := impl.SundayLetters(c.year)
		if before != c.before || behind != c.behind || code != impl.ErrNone {
			t.Errorf("SundayLetters(%d) = %d, %d, %d; want %d, %d", c.year, before, behind, code, c.before, c.behind)
		}
	}
}

// TestLocalEasters has all years at places that changed in any of the known years, and at places that
// changed just before, on and just behind the Easters of the year.
func TestLocalEasters(t *testing.T) {
	for year := int64(-1); year <= 2002; year++ {
		for _, reform := range reforms {
			checkLocalEaster(t, reform, year)
		}
		if !isYear(year) {
			continue
		}
		for _, n := range []int64{easterDays().old[year], easterDays().new[year]} {
			for by := int64(-40); by <= 40; by++ {
				checkLocalEaster(t, n+by, year)
			}
		}
	}
}

// TestLocalEasterHasALocalDate finds, at a place, each Easter in its local calendar: as a Sunday whose
// date is local and in the year.
func TestLocalEasterHasALocalDate(t *testing.T) {
	for _, reform := range reforms {
		for year := int64(1); year <= 2000; year++ {
			c := impl.Calendar{Reform: reform}
			n, code := impl.LocalEaster(c, year)
			if code != impl.ErrNone {
				continue
			}
			d, _ := impl.LocalDate(c, n)
			if w, _ := impl.WeekdayOf(n); w != 6 {
				t.Errorf("LocalEaster(%v, %d) = %d has the weekday %d", c, year, n, w)
			}
			checkEasterDate(t, year, d)
		}
	}
}

func TestKnownLocalEasters(t *testing.T) {
	for _, c := range []struct {
		reform int64
		d      impl.Date
	}{
		{romeReform, impl.Date{Year: 1, Month: 3, Day: 27}},
		{romeReform, impl.Date{Year: 1215, Month: 4, Day: 19}},
		{romeReform, impl.Date{Year: 1582, Month: 4, Day: 15}},
		{romeReform, impl.Date{Year: 1583, Month: 4, Day: 10}},
		{romeReform, impl.Date{Year: 1584, Month: 4, Day: 1}},
		{romeReform, impl.Date{Year: 2000, Month: 4, Day: 23}},
		{londonReform, impl.Date{Year: 1583, Month: 3, Day: 31}},
		{londonReform, impl.Date{Year: 1584, Month: 4, Day: 19}},
		{londonReform, impl.Date{Year: 1752, Month: 3, Day: 29}},
		{londonReform, impl.Date{Year: 1753, Month: 4, Day: 22}},
		{700215, impl.Date{Year: 1917, Month: 4, Day: 2}},
		{700215, impl.Date{Year: 1918, Month: 3, Day: 31}},
		{lastReform, impl.Date{Year: 2000, Month: 4, Day: 17}},
		{noReform, impl.Date{Year: 1583, Month: 3, Day: 31}},
		{noReform, impl.Date{Year: 1999, Month: 3, Day: 29}},
		{noReform, impl.Date{Year: 2000, Month: 4, Day: 17}},
	} {
		place := impl.Calendar{Reform: c.reform}
		n, code := impl.LocalEaster(place, c.d.Year)
		if d, _ := impl.LocalDate(place, n); d != c.d || code != impl.ErrNone {
			t.Errorf("LocalEaster(%v, %d) = %d, %d, which is %v; want %v", place, c.d.Year, n, code, d, c.d)
		}
	}
}

// TestEastersThatAPlaceMissed has places that changed in a year between its two Easters, and early ones:
// they have no Easter until the new rule begins.
func TestEastersThatAPlaceMissed(t *testing.T) {
	old, _ := impl.OldEaster(1584)
	new, _ := impl.NewEaster(1584)
	if old != new+28 {
		t.Fatalf("Easters of 1584 on %d and %d", old, new)
	}
	first, _ := impl.OldEaster(549)
	for _, c := range []struct{ reform, year, n, code int64 }{
		{new - 1, 1584, new, impl.ErrNone}, {new, 1584, new, impl.ErrNone}, {new + 1, 1584, 0, impl.ErrNotFound},
		{old - 1, 1584, 0, impl.ErrNotFound}, {old, 1584, 0, impl.ErrNotFound}, {old + 1, 1584, old, impl.ErrNone},
		{first, 549, 0, impl.ErrNotFound}, {first + 1, 549, first, impl.ErrNone}, {first, 1582, 0, impl.ErrNotFound}, {first, 1584, new, impl.ErrNone},
		{firstReform, 549, 0, impl.ErrNotFound}, {firstReform, 1581, 0, impl.ErrNotFound}, {firstReform, 1582, 0, impl.ErrNotFound},
	} {
		if n, code := impl.LocalEaster(impl.Calendar{Reform: c.reform}, c.year); n != c.n || code != c.code {
			t.Errorf("LocalEaster(%d, %d) = %d, %d; want %d, %d", c.reform, c.year, n, code, c.n, c.code)
		}
	}
}

// TestErrorsOfLocalEaster has calendars that are not valid with years that are and with others, and
// years out of range at valid places: the calendar comes first, then the year.
func TestErrorsOfLocalEaster(t *testing.T) {
	for _, reform := range append(badReforms(), firstReform, romeReform, lastReform, noReform) {
		for _, year := range append([]int64{0, 1, 548, 1582, 1583, 2000, 2001}, extremes...) {
			checkLocalEaster(t, reform, year)
		}
	}
	for _, c := range []struct{ reform, year, code int64 }{
		{0, 0, impl.ErrInvalid}, {0, 1215, impl.ErrInvalid}, {firstReform - 1, 2001, impl.ErrInvalid}, {lastReform + 1, 1582, impl.ErrInvalid},
		{impl.MaxDay, 2000, impl.ErrInvalid}, {noReform + 1, 2000, impl.ErrInvalid}, {firstReform, 0, impl.ErrRange}, {firstReform, 2001, impl.ErrRange},
		{noReform, 0, impl.ErrRange}, {noReform, 2001, impl.ErrRange}, {firstReform, 1582, impl.ErrNotFound},
	} {
		if n, code := impl.LocalEaster(impl.Calendar{Reform: c.reform}, c.year); n != 0 || code != c.code {
			t.Errorf("LocalEaster(%d, %d) = %d, %d; want code %d", c.reform, c.year, n, code, c.code)
		}
	}
}

// TestYearsWithEachDate has all months and days, those that there are not included, in some ranges.
func TestYearsWithEachDate(t *testing.T) {
	ranges := [][2]int64{{1, 1}, {1, 600}, {1, 601}, {1, 602}, {0, 600}, {602, 1202}, {1100, 1300}, {1399, 2000}, {1400, 2000}, {1401, 2001}, {1500, 1499}, {2000, 2000}}
	for month := int64(-1); month <= 14; month++ {
		for day := int64(-1); day <= 33; day++ {
			for _, r := range ranges {
				checkYearsWith(t, month, day, r[0], r[1])
			}
		}
	}
}

// TestEachYearHasOneEaster counts the years of all dates, and the dates that come at all.
func TestEachYearHasOneEaster(t *testing.T) {
	count, dates := 0, 0
	for month := int64(1); month <= 12; month++ {
		for day := int64(1); day <= lengthOf(month, true); day++ {
			here := 0
			for _, r := range [][2]int64{{1, 600}, {601, 1200}, {1201, 1800}, {1801, 2000}} {
				list, code := impl.YearsWithEaster(month, day, r[0], r[1])
				if code != impl.ErrNone || !slices.IsSorted(list) {
					t.Errorf("YearsWithEaster(%d, %d, %v) = %v, %d", month, day, r, list, code)
				}
				here += len(list)
			}
			easter := month == 3 && day >= 22 || month == 4 && day <= 25
			if easter != (here > 0) {
				t.Errorf("%d years with Easter on %d-%d", here, month, day)
			}
			count += here
			if here > 0 {
				dates++
			}
		}
	}
	if count != 2000 || dates != 35 {
		t.Errorf("%d years, %d dates", count, dates)
	}
}

func TestRangesOfYearsWithEaster(t *testing.T) {
	for _, c := range []struct {
		month, day, from, to int64
		years                []int64
		code                 int64
	}{
		{4, 25, 1100, 1300, []int64{1109, 1204}, impl.ErrNone},
		{4, 25, 1109, 1204, []int64{1109, 1204}, impl.ErrNone},
		{4, 25, 1110, 1204, []int64{1204}, impl.ErrNone},
		{4, 25, 1109, 1203, []int64{1109}, impl.ErrNone},
		{4, 25, 1110, 1203, nil, impl.ErrNone},
		{3, 22, 1100, 1700, []int64{1136, 1383, 1478, 1573, 1668}, impl.ErrNone},
		{3, 27, 1, 1, []int64{1}, impl.ErrNone},
		{3, 28, 1, 1, nil, impl.ErrNone},
		{3, 27, 2, 1, nil, impl.ErrRange},
		{3, 27, 0, 1, nil, impl.ErrRange},
		{4, 17, 2000, 2000, []int64{2000}, impl.ErrNone},
		{4, 17, 2000, 2001, nil, impl.ErrRange},
		{4, 17, 2001, 2001, nil, impl.ErrRange},
		{4, 17, 2000, 1999, nil, impl.ErrRange},
		{4, 17, 2000, 1, nil, impl.ErrRange},
		{4, 17, 1399, 2000, nil, impl.ErrRange},
		{4, 17, 1, 602, nil, impl.ErrRange},
		{4, 17, 1, 2000, nil, impl.ErrRange},
		{2, 29, 1, 601, nil, impl.ErrNone},
		{3, 21, 1400, 2000, nil, impl.ErrNone},
		{4, 26, 1400, 2000, nil, impl.ErrNone},
		{1, 1, 1, 1, nil, impl.ErrNone},
		{12, 31, 1, 601, nil, impl.ErrNone},
		{2, 30, 1, 601, nil, impl.ErrRange},
		{4, 31, 1, 601, nil, impl.ErrRange},
		{4, 0, 1, 601, nil, impl.ErrRange},
		{3, 32, 1, 601, nil, impl.ErrRange},
		{0, 1, 1, 601, nil, impl.ErrRange},
		{13, 1, 1, 601, nil, impl.ErrRange},
	} {
		list, code := impl.YearsWithEaster(c.month, c.day, c.from, c.to)
		if !slices.Equal(list, c.years) || code != c.code {
			t.Errorf("YearsWithEaster(%d, %d, %d, %d) = %v, %d; want %v, %d", c.month, c.day, c.from, c.to, list, code, c.years, c.code)
		}
	}
}

// TestYearsWithEasterOfExtremeNumbers puts each extreme in each place, and two of them in any two.
func TestYearsWithEasterOfExtremeNumbers(t *testing.T) {
	for _, one := range append([]int64{0, 13, 32, 2001}, extremes...) {
		for i := range 4 {
			args := [4]int64{4, 19, 1100, 1300}
			args[i] = one
			checkYearsWith(t, args[0], args[1], args[2], args[3])
			for _, two := range extremes {
				for j := range 4 {
					pair := args
					pair[j] = two
					checkYearsWith(t, pair[0], pair[1], pair[2], pair[3])
				}
			}
		}
	}
}

func TestRandomYearsWithEaster(t *testing.T) {
	random := rand.New(rand.NewSource(5))
	for range 5000 {
		from := random.Int63n(2003)
		checkYearsWith(t, 3+random.Int63n(2), random.Int63n(33), from, from-2+random.Int63n(605))
	}
}

// TestYearsWithEasterGivesNewMemory writes over a list, and what lies behind it, and asks again.
func TestYearsWithEasterGivesNewMemory(t *testing.T) {
	list, _ := impl.YearsWithEaster(4, 19, 1100, 1700)
	other, _ := impl.YearsWithEaster(4, 19, 1100, 1700)
	want, _ := yearsWith(4, 19, 1100, 1700)
	for i := range list[:cap(list)] {
		list[:cap(list)][i] = -7
	}
	if again, code := impl.YearsWithEaster(4, 19, 1100, 1700); len(want) == 0 || !slices.Equal(again, want) || code != impl.ErrNone {
		t.Errorf("YearsWithEaster = %v, %d; want %v", again, code, want)
	}
	if !slices.Equal(other, want) {
		t.Errorf("a list was written to with another one: %v; want %v", other, want)
	}
	for _, year := range want {
		checkEasterYear(t, year)
	}
}

// firstCalls are the functions that tell of Easter, with what they have to return for a year from 1583
// on. The days that are kept are filled in by the first call that reads them, whichever that is.
func firstCalls() map[string]func(year int64) (got int64, want int64) {
	e := easterDays()
	return map[string]func(int64) (int64, int64){
		"OldEaster":   func(year int64) (int64, int64) { n, _ := impl.OldEaster(year); return n, e.old[year] },
		"NewEaster":   func(year int64) (int64, int64) { n, _ := impl.NewEaster(year); return n, e.new[year] },
		"EasterTerm":  func(year int64) (int64, int64) { n, _ := impl.EasterTerm(year); return n, e.moons[year] },
		"LocalEaster": func(year int64) (int64, int64) { return localFirst(romeReform, year), e.new[year] },
		"LocalEaster of a place that never changed": func(year int64) (int64, int64) { return localFirst(noReform, year), e.old[year] },
		"YearsWithEaster": func(year int64) (int64, int64) {
			d := walked().oldDates[e.old[year]]
			list, _ := impl.YearsWithEaster(d.Month, d.Day, year, year)
			return int64(len(list)), 1
		},
	}
}

func localFirst(reform int64, year int64) int64 {
	n, _ := impl.LocalEaster(impl.Calendar{Reform: reform}, year)
	return n
}

// firstCallName is the environment variable that tells a process which of the first calls to make.
const firstCallName = "EASTER_FIRST_CALL"

// TestFirstCalls starts a process of its own for each function, in which this function is the first one
// of all that is called, by several goroutines at once.
func TestFirstCalls(t *testing.T) {
	if name := os.Getenv(firstCallName); name != "" {
		callAtOnce(t, firstCalls()[name])
		return
	}
	program, err := os.Executable()
	if err != nil {
		t.Fatal(err)
	}
	for name := range firstCalls() {
		child := exec.Command(program, "-test.run=^TestFirstCalls$", "-test.v")
		child.Env = append(os.Environ(), firstCallName+"="+name)
		output, err := child.CombinedOutput()
		if err != nil || !strings.Contains(string(output), "--- PASS: TestFirstCalls") {
			t.Errorf("%s first: %v\n%s", name, err, output)
		}
	}
}

// callAtOnce calls a function for years from several goroutines, each of which begins with another year.
func callAtOnce(t *testing.T, call func(int64) (int64, int64)) {
	const callers, years = 8, 2000 - firstNewEaster + 1
	wrong := [callers]string{}
	start := make(chan bool)
	var group sync.WaitGroup
	for k := range callers {
		group.Go(func() {
			<-start
			for i := range int64(years) {
				year := firstNewEaster + (i+int64(k)*years/callers)%years
				if got, want := call(year); got != want && wrong[k] == "" {
					wrong[k] = fmt.Sprintf("year %d: %d; want %d", year, got, want)
				}
			}
		})
	}
	close(start)
	group.Wait()
	for _, text := range wrong {
		if text != "" {
			t.Error(text)
		}
	}
}
