package tests

import (
	"math/rand"
	"slices"
	"sync"
	"testing"

	"loop.example/g01034/impl"
)

// The styles by their numbers, as the document tells them.
const (
	styleJanuary   = 0
	styleMarch     = 1
	styleLady      = 2
	stylePisa      = 3
	styleEaster    = 4
	styleChristmas = 5
	styleSeptember = 6
)

// knownStyles are the styles by their numbers, with the date on which a year begins, or none if that is
// Easter, and by how much its number is ahead of the old year of this date.
var knownStyles = []struct {
	name              string
	month, day, ahead int64
}{
	{"january", 1, 1, 0}, {"march", 3, 1, 0}, {"lady", 3, 25, 0}, {"pisa", 3, 25, 1}, {"easter", 0, 0, 0}, {"christmas", 12, 25, 1}, {"september", 9, 1, 1},
}

// styles holds, for each style, the year of each day, or 0 if the style does not tell the day, and the
// span of each year. They are found by going over all days. It is the reference for all tests of styles.
type styles struct {
	years [7][]int64
	spans [7][2001]impl.Span
}

var styleCalendar = sync.OnceValue(func() *styles {
	s := &styles{}
	for style := range knownStyles {
		s.years[style] = make([]int64, impl.MaxDay+1)
		year := int64(0)
		for n := range s.years[style] {
			if begun := beginsOn(style, int64(n)); begun > 0 {
				year = begun
			}
			if !isStyleYear(year) {
				continue
			}
			s.years[style][n] = year
			span := &s.spans[style][year]
			if span.From == 0 {
				span.From = int64(n)
			}
			span.To = int64(n)
		}
	}
	return s
})

// beginsOn tells the year that begins on a day in a style, or 0 if none does.
func beginsOn(style int, n int64) int64 {
	known, d := knownStyles[style], walked().oldDates[n]
	begins := d.Month == known.month && d.Day == known.day
	if known.month == 0 {
		begins = n == easterDays().old[d.Year]
	}
	if !begins {
		return 0
	}
	return d.Year + known.ahead
}

func isStyle(style int64) bool { return style >= 0 && style <= 6 }

// isStyleYear tells whether a year has a span.
func isStyleYear(year int64) bool { return year >= 2 && year <= 1999 }

// styleSpan tells what YearSpan has to return.
func styleSpan(style int64, year int64) (impl.Span, int64) {
	if !isStyle(style) || !isStyleYear(year) {
		return impl.Span{}, impl.ErrRange
	}
	return styleCalendar().spans[style][year], impl.ErrNone
}

// yearOn tells what YearOn has to return.
func yearOn(style int64, n int64) (int64, int64) {
	if !isStyle(style) || !isDayNumber(n) {
		return 0, impl.ErrRange
	}
	year := styleCalendar().years[style][n]
	if year == 0 {
		return 0, impl.ErrNotFound
	}
	return year, impl.ErrNone
}

// daysWith tells what DaysWith has to return; it looks at all days of the year.
func daysWith(style int64, year int64, month int64, day int64) ([]int64, int64) {
	isDate := numberIn(walked().oldNumbers, impl.Date{Year: 4, Month: month, Day: day}) >= 0
	if !isStyle(style) || !isStyleYear(year) || !isDate {
		return nil, impl.ErrRange
	}
	return datesOfYear(style, year)[[2]int64{month, day}], impl.ErrNone
}

// datesOfYear lists the days of a year by their months and days.
func datesOfYear(style int64, year int64) map[[2]int64][]int64 {
	dates := map[[2]int64][]int64{}
	span := styleCalendar().spans[style][year]
	for n := span.From; n <= span.To; n++ {
		d := walked().oldDates[n]
		dates[[2]int64{d.Month, d.Day}] = append(dates[[2]int64{d.Month, d.Day}], n)
	}
	return dates
}

// stylesFor tells what StylesFor has to return.
func stylesFor(n int64, year int64) ([]int64, int64) {
	if !isDayNumber(n) || !isStyleYear(year) {
		return nil, impl.ErrRange
	}
	var list []int64
	for style := range int64(7) {
		if styleCalendar().years[style][n] == year {
			list = append(list, style)
		}
	}
	return list, impl.ErrNone
}

// yearDifference tells what YearDifference has to return.
func yearDifference(one int64, two int64, n int64) (int64, int64) {
	first, firstCode := yearOn(one, n)
	second, secondCode := yearOn(two, n)
	switch {
	case firstCode == impl.ErrRange || secondCode == impl.ErrRange:
		return 0, impl.ErrRange
	case firstCode == impl.ErrNotFound || secondCode == impl.ErrNotFound:
		return 0, impl.ErrNotFound
	}
	return second - first, impl.ErrNone
}

// checkStyleYear compares YearSpan and LengthOfYear with the reference.
func checkStyleYear(t *testing.T, style int64, year int64) {
	t.Helper()
	want, wantCode := styleSpan(style, year)
	if s, code := impl.YearSpan(style, year); s != want || code != wantCode {
		t.Errorf("YearSpan(%d, %d) = %v, %d; want %v, %d", style, year, s, code, want, wantCode)
	}
	length := int64(0)
	if wantCode == impl.ErrNone {
		length = want.To - want.From + 1
	}
	if got, code := impl.LengthOfYear(style, year); got != length || code != wantCode {
		t.Errorf("LengthOfYear(%d, %d) = %d, %d; want %d, %d", style, year, got, code, length, wantCode)
	}
}

func checkYearOn(t *testing.T, style int64, n int64) {
	t.Helper()
	want, wantCode := yearOn(style, n)
	if year, code := impl.YearOn(style, n); year != want || code != wantCode {
		t.Errorf("YearOn(%d, %d) = %d, %d; want %d, %d", style, n, year, code, want, wantCode)
	}
}

func checkDaysWith(t *testing.T, style int64, year int64, month int64, day int64) {
	t.Helper()
	want, wantCode := daysWith(style, year, month, day)
	if list, code := impl.DaysWith(style, year, month, day); !slices.Equal(list, want) || code != wantCode {
		t.Errorf("DaysWith(%d, %d, %d, %d) = %v, %d; want %v, %d", style, year, month, day, list, code, want, wantCode)
	}
}

func checkStylesFor(t *testing.T, n int64, year int64) {
	t.Helper()
	want, wantCode := stylesFor(n, year)
	if list, code := impl.StylesFor(n, year); !slices.Equal(list, want) || code != wantCode {
		t.Errorf("StylesFor(%d, %d) = %v, %d; want %v, %d", n, year, list, code, want, wantCode)
	}
}

func checkYearDifference(t *testing.T, one int64, two int64, n int64) {
	t.Helper()
	want, wantCode := yearDifference(one, two, n)
	if by, code := impl.YearDifference(one, two, n); by != want || code != wantCode {
		t.Errorf("YearDifference(%d, %d, %d) = %d, %d; want %d, %d", one, two, n, by, code, want, wantCode)
	}
}

// dateNumber tells the day of an old date.
func dateNumber(d impl.Date) int64 { return walked().oldNumbers[place(d)] }

func TestNumbersOfStyles(t *testing.T) {
	numbers := [...]int64{
		impl.StyleJanuary, impl.StyleMarch, impl.StyleLady, impl.StylePisa, impl.StyleEaster, impl.StyleChristmas, impl.StyleSeptember,
	}
	if numbers != [...]int64{0, 1, 2, 3, 4, 5, 6} {
		t.Errorf("styles %v", numbers)
	}
}

// TestEachToldDayIsInTheSpanOfItsYearOnly is promise 6: it lists the days of the spans of all years, and
// wants each day in no other span than that of its year, and in none if it has no year.
func TestEachToldDayIsInTheSpanOfItsYearOnly(t *testing.T) {
	for style := range int64(7) {
		years := make([][]int64, impl.MaxDay+1)
		for year := int64(2); year <= 1999; year++ {
			span, code := impl.YearSpan(style, year)
			if code != impl.ErrNone || !impl.IsSet([]impl.Span{span}) {
				t.Fatalf("YearSpan(%d, %d) = %v, %d", style, year, span, code)
			}
			for n := span.From; n <= span.To; n++ {
				years[n] = append(years[n], year)
			}
		}
		for n, in := range years {
			year, code := impl.YearOn(style, int64(n))
			told := code == impl.ErrNone && slices.Equal(in, []int64{year})
			untold := code == impl.ErrNotFound && len(in) == 0 && year == 0
			if !told && !untold {
				t.Errorf("YearOn(%d, %d) = %d, %d, but it is in the spans of %v", style, n, year, code, in)
			}
		}
	}
}

// TestYearsFollowOneAnother finds no gap between the years of a style, and the lengths that there are.
func TestYearsFollowOneAnother(t *testing.T) {
	for style := range int64(7) {
		sum := int64(0)
		first, _ := impl.YearSpan(style, 2)
		before := first.From - 1
		for year := int64(2); year <= 1999; year++ {
			span, _ := impl.YearSpan(style, year)
			length, code := impl.LengthOfYear(style, year)
			if span.From != before+1 || span.To-span.From+1 != length || code != impl.ErrNone {
				t.Errorf("YearSpan(%d, %d) = %v, %d days, behind %d", style, year, span, length, before)
			}
			if style != styleEaster && length != 365 && length != 366 || length < 350 || length > 385 {
				t.Errorf("LengthOfYear(%d, %d) = %d", style, year, length)
			}
			before = span.To
			sum += length
		}
		if last, _ := impl.YearSpan(style, 1999); sum != last.To-first.From+1 {
			t.Errorf("style %d: %d days", style, sum)
		}
	}
}

// TestAllYearsOfStyles has all styles and years, and one more and one less of each.
func TestAllYearsOfStyles(t *testing.T) {
	for style := int64(-1); style <= 7; style++ {
		for year := int64(-1); year <= 2002; year++ {
			checkStyleYear(t, style, year)
		}
	}
}

// TestYearsOfAllDays has all days, and numbers around them, in all styles, and one more and one less.
func TestYearsOfAllDays(t *testing.T) {
	for style := int64(-1); style <= 7; style++ {
		for n := int64(-400); n <= impl.MaxDay+400; n++ {
			checkYearOn(t, style, n)
		}
	}
}

// TestKnownSpansOfYears has the first and the last year of each style, and years behind, before and in
// a leap year. Easter of 1214 to 1217 was on March 30, April 19, April 10 and March 26.
func TestKnownSpansOfYears(t *testing.T) {
	for _, c := range []struct {
		style, year int64
		from, to    impl.Date
		length      int64
	}{
		{styleJanuary, 2, impl.Date{Year: 2, Month: 1, Day: 1}, impl.Date{Year: 2, Month: 12, Day: 31}, 365},
		{styleJanuary, 1215, impl.Date{Year: 1215, Month: 1, Day: 1}, impl.Date{Year: 1215, Month: 12, Day: 31}, 365},
		{styleJanuary, 1216, impl.Date{Year: 1216, Month: 1, Day: 1}, impl.Date{Year: 1216, Month: 12, Day: 31}, 366},
		{styleJanuary, 1999, impl.Date{Year: 1999, Month: 1, Day: 1}, impl.Date{Year: 1999, Month: 12, Day: 31}, 365},
		{styleMarch, 2, impl.Date{Year: 2, Month: 3, Day: 1}, impl.Date{Year: 3, Month: 2, Day: 28}, 365},
		{styleMarch, 1215, impl.Date{Year: 1215, Month: 3, Day: 1}, impl.Date{Year: 1216, Month: 2, Day: 29}, 366},
		{styleMarch, 1216, impl.Date{Year: 1216, Month: 3, Day: 1}, impl.Date{Year: 1217, Month: 2, Day: 28}, 365},
		{styleMarch, 1999, impl.Date{Year: 1999, Month: 3, Day: 1}, impl.Date{Year: 2000, Month: 2, Day: 29}, 366},
		{styleLady, 2, impl.Date{Year: 2, Month: 3, Day: 25}, impl.Date{Year: 3, Month: 3, Day: 24}, 365},
		{styleLady, 1215, impl.Date{Year: 1215, Month: 3, Day: 25}, impl.Date{Year: 1216, Month: 3, Day: 24}, 366},
		{styleLady, 1216, impl.Date{Year: 1216, Month: 3, Day: 25}, impl.Date{Year: 1217, Month: 3, Day: 24}, 365},
		{styleLady, 1999, impl.Date{Year: 1999, Month: 3, Day: 25}, impl.Date{Year: 2000, Month: 3, Day: 24}, 366},
		{stylePisa, 2, impl.Date{Year: 1, Month: 3, Day: 25}, impl.Date{Year: 2, Month: 3, Day: 24}, 365},
		{stylePisa, 1215, impl.Date{Year: 1214, Month: 3, Day: 25}, impl.Date{Year: 1215, Month: 3, Day: 24}, 365},
		{stylePisa, 1216, impl.Date{Year: 1215, Month: 3, Day: 25}, impl.Date{Year: 1216, Month: 3, Day: 24}, 366},
		{stylePisa, 1999, impl.Date{Year: 1998, Month: 3, Day: 25}, impl.Date{Year: 1999, Month: 3, Day: 24}, 365},
		{styleEaster, 2, impl.Date{Year: 2, Month: 4, Day: 16}, impl.Date{Year: 3, Month: 4, Day: 7}, 357},
		{styleEaster, 1214, impl.Date{Year: 1214, Month: 3, Day: 30}, impl.Date{Year: 1215, Month: 4, Day: 18}, 385},
		{styleEaster, 1215, impl.Date{Year: 1215, Month: 4, Day: 19}, impl.Date{Year: 1216, Month: 4, Day: 9}, 357},
		{styleEaster, 1216, impl.Date{Year: 1216, Month: 4, Day: 10}, impl.Date{Year: 1217, Month: 3, Day: 25}, 350},
		{styleEaster, 1999, impl.Date{Year: 1999, Month: 3, Day: 29}, impl.Date{Year: 2000, Month: 4, Day: 16}, 385},
		{styleChristmas, 2, impl.Date{Year: 1, Month: 12, Day: 25}, impl.Date{Year: 2, Month: 12, Day: 24}, 365},
		{styleChristmas, 1215, impl.Date{Year: 1214, Month: 12, Day: 25}, impl.Date{Year: 1215, Month: 12, Day: 24}, 365},
		{styleChristmas, 1216, impl.Date{Year: 1215, Month: 12, Day: 25}, impl.Date{Year: 1216, Month: 12, Day: 24}, 366},
		{styleChristmas, 1999, impl.Date{Year: 1998, Month: 12, Day: 25}, impl.Date{Year: 1999, Month: 12, Day: 24}, 365},
		{styleSeptember, 2, impl.Date{Year: 1, Month: 9, Day: 1}, impl.Date{Year: 2, Month: 8, Day: 31}, 365},
		{styleSeptember, 1215, impl.Date{Year: 1214, Month: 9, Day: 1}, impl.Date{Year: 1215, Month: 8, Day: 31}, 365},
		{styleSeptember, 1216, impl.Date{Year: 1215, Month: 9, Day: 1}, impl.Date{Year: 1216, Month: 8, Day: 31}, 366},
		{styleSeptember, 1999, impl.Date{Year: 1998, Month: 9, Day: 1}, impl.Date{Year: 1999, Month: 8, Day: 31}, 365},
	} {
		s, code := impl.YearSpan(c.style, c.year)
		if s.From != dateNumber(c.from) || s.To != dateNumber(c.to) || code != impl.ErrNone {
			t.Errorf("YearSpan(%d, %d) = %v, %d, which is %v to %v", c.style, c.year, s, code, walked().oldDates[s.From], walked().oldDates[s.To])
		}
		if length, code := impl.LengthOfYear(c.style, c.year); length != c.length || code != impl.ErrNone {
			t.Errorf("LengthOfYear(%d, %d) = %d, %d; want %d", c.style, c.year, length, code, c.length)
		}
	}
}

// TestFirstAndLastToldDays has the first and the last day that each style tells, and those beside them.
func TestFirstAndLastToldDays(t *testing.T) {
	for _, c := range []struct {
		style       int64
		first, last impl.Date
	}{
		{styleJanuary, impl.Date{Year: 2, Month: 1, Day: 1}, impl.Date{Year: 1999, Month: 12, Day: 31}},
		{styleMarch, impl.Date{Year: 2, Month: 3, Day: 1}, impl.Date{Year: 2000, Month: 2, Day: 29}},
		{styleLady, impl.Date{Year: 2, Month: 3, Day: 25}, impl.Date{Year: 2000, Month: 3, Day: 24}},
		{stylePisa, impl.Date{Year: 1, Month: 3, Day: 25}, impl.Date{Year: 1999, Month: 3, Day: 24}},
		{styleEaster, impl.Date{Year: 2, Month: 4, Day: 16}, impl.Date{Year: 2000, Month: 4, Day: 16}},
		{styleChristmas, impl.Date{Year: 1, Month: 12, Day: 25}, impl.Date{Year: 1999, Month: 12, Day: 24}},
		{styleSeptember, impl.Date{Year: 1, Month: 9, Day: 1}, impl.Date{Year: 1999, Month: 8, Day: 31}},
	} {
		first, last := dateNumber(c.first), dateNumber(c.last)
		for _, d := range []struct{ n, year, code int64 }{
			{0, 0, impl.ErrNotFound}, {first - 1, 0, impl.ErrNotFound}, {first, 2, impl.ErrNone}, {first + 1, 2, impl.ErrNone},
			{last - 1, 1999, impl.ErrNone}, {last, 1999, impl.ErrNone}, {last + 1, 0, impl.ErrNotFound}, {impl.MaxDay, 0, impl.ErrNotFound},
			{-1, 0, impl.ErrRange}, {impl.MaxDay + 1, 0, impl.ErrRange},
		} {
			if year, code := impl.YearOn(c.style, d.n); year != d.year || code != d.code {
				t.Errorf("YearOn(%d, %d) = %d, %d; want %d, %d", c.style, d.n, year, code, d.year, d.code)
			}
			if by, code := impl.YearDifference(c.style, c.style, d.n); by != 0 || code != d.code {
				t.Errorf("YearDifference(%d, %d, %d) = %d, %d; want code %d", c.style, c.style, d.n, by, code, d.code)
			}
		}
	}
}

// TestKnownTurnsOfTheYear has the days on which years begin, and the days before them, with the years
// of these days in all styles.
func TestKnownTurnsOfTheYear(t *testing.T) {
	for _, c := range []struct {
		d     impl.Date
		years [7]int64
	}{
		{impl.Date{Year: 1215, Month: 12, Day: 31}, [7]int64{1215, 1215, 1215, 1216, 1215, 1216, 1216}},
		{impl.Date{Year: 1216, Month: 1, Day: 1}, [7]int64{1216, 1215, 1215, 1216, 1215, 1216, 1216}},
		{impl.Date{Year: 1216, Month: 2, Day: 28}, [7]int64{1216, 1215, 1215, 1216, 1215, 1216, 1216}},
		{impl.Date{Year: 1216, Month: 2, Day: 29}, [7]int64{1216, 1215, 1215, 1216, 1215, 1216, 1216}},
		{impl.Date{Year: 1216, Month: 3, Day: 1}, [7]int64{1216, 1216, 1215, 1216, 1215, 1216, 1216}},
		{impl.Date{Year: 1216, Month: 3, Day: 24}, [7]int64{1216, 1216, 1215, 1216, 1215, 1216, 1216}},
		{impl.Date{Year: 1216, Month: 3, Day: 25}, [7]int64{1216, 1216, 1216, 1217, 1215, 1216, 1216}},
		{impl.Date{Year: 1216, Month: 4, Day: 9}, [7]int64{1216, 1216, 1216, 1217, 1215, 1216, 1216}},
		{impl.Date{Year: 1216, Month: 4, Day: 10}, [7]int64{1216, 1216, 1216, 1217, 1216, 1216, 1216}},
		{impl.Date{Year: 1216, Month: 8, Day: 31}, [7]int64{1216, 1216, 1216, 1217, 1216, 1216, 1216}},
		{impl.Date{Year: 1216, Month: 9, Day: 1}, [7]int64{1216, 1216, 1216, 1217, 1216, 1216, 1217}},
		{impl.Date{Year: 1216, Month: 12, Day: 24}, [7]int64{1216, 1216, 1216, 1217, 1216, 1216, 1217}},
		{impl.Date{Year: 1216, Month: 12, Day: 25}, [7]int64{1216, 1216, 1216, 1217, 1216, 1217, 1217}},
		{impl.Date{Year: 1217, Month: 2, Day: 28}, [7]int64{1217, 1216, 1216, 1217, 1216, 1217, 1217}},
		{impl.Date{Year: 1217, Month: 3, Day: 25}, [7]int64{1217, 1217, 1217, 1218, 1216, 1217, 1217}},
		{impl.Date{Year: 1217, Month: 3, Day: 26}, [7]int64{1217, 1217, 1217, 1218, 1217, 1217, 1217}},
		{impl.Date{Year: 1136, Month: 3, Day: 21}, [7]int64{1136, 1136, 1135, 1136, 1135, 1136, 1136}},
		{impl.Date{Year: 1136, Month: 3, Day: 22}, [7]int64{1136, 1136, 1135, 1136, 1136, 1136, 1136}}, // the earliest Easter
		{impl.Date{Year: 1204, Month: 4, Day: 24}, [7]int64{1204, 1204, 1204, 1205, 1203, 1204, 1204}},
		{impl.Date{Year: 1204, Month: 4, Day: 25}, [7]int64{1204, 1204, 1204, 1205, 1204, 1204, 1204}}, // and the latest one
		{impl.Date{Year: 1285, Month: 3, Day: 25}, [7]int64{1285, 1285, 1285, 1286, 1285, 1285, 1285}}, // Easter with annunciation
		{impl.Date{Year: 1285, Month: 3, Day: 24}, [7]int64{1285, 1285, 1284, 1285, 1284, 1285, 1285}},
	} {
		n := dateNumber(c.d)
		for style, want := range c.years {
			if year, code := impl.YearOn(int64(style), n); year != want || code != impl.ErrNone {
				t.Errorf("YearOn(%d) of %v = %d, %d; want %d", style, c.d, year, code, want)
			}
			for other, year := range c.years {
				if by, code := impl.YearDifference(int64(style), int64(other), n); by != year-want || code != impl.ErrNone {
					t.Errorf("YearDifference(%d, %d) of %v = %d, %d; want %d", style, other, c.d, by, code, year-want)
				}
			}
		}
	}
}

// TestKnownDaysWith has dates that come twice or not at all in a year, and days of two old years. Easter
// of 1209 to 1211 was on March 29, April 18 and April 3; that of 1204 and 1205 on April 25 and 10.
func TestKnownDaysWith(t *testing.T) {
	for _, c := range []struct {
		style, year, month, day int64
		inYears                 []int64
	}{
		{styleEaster, 1209, 3, 28, []int64{1210}}, {styleEaster, 1209, 3, 29, []int64{1209, 1210}}, {styleEaster, 1209, 4, 1, []int64{1209, 1210}},
		{styleEaster, 1209, 4, 17, []int64{1209, 1210}}, {styleEaster, 1209, 4, 18, []int64{1209}}, {styleEaster, 1209, 12, 31, []int64{1209}},
		{styleEaster, 1209, 1, 1, []int64{1210}}, {styleEaster, 1210, 4, 2, []int64{1211}}, {styleEaster, 1210, 4, 3, nil},
		{styleEaster, 1210, 4, 17, nil}, {styleEaster, 1210, 4, 18, []int64{1210}}, {styleEaster, 1204, 4, 9, []int64{1205}},
		{styleEaster, 1204, 4, 10, nil}, {styleEaster, 1204, 4, 20, nil}, {styleEaster, 1204, 4, 24, nil}, {styleEaster, 1204, 4, 25, []int64{1204}},
		{styleEaster, 1203, 4, 24, []int64{1203, 1204}}, {styleEaster, 2, 4, 16, []int64{2}}, {styleEaster, 2, 4, 15, nil}, {styleEaster, 2, 4, 7, []int64{3}},
		{styleEaster, 1999, 4, 16, []int64{1999, 2000}}, {styleEaster, 1999, 3, 28, []int64{2000}}, {styleEaster, 1999, 4, 17, []int64{1999}},
		{styleJanuary, 1215, 1, 1, []int64{1215}}, {styleJanuary, 1215, 12, 31, []int64{1215}}, {styleJanuary, 2, 1, 1, []int64{2}},
		{styleMarch, 1215, 3, 1, []int64{1215}}, {styleMarch, 1215, 2, 28, []int64{1216}}, {styleMarch, 1999, 1, 31, []int64{2000}},
		{styleLady, 1215, 3, 24, []int64{1216}}, {styleLady, 1215, 3, 25, []int64{1215}}, {styleLady, 1999, 3, 24, []int64{2000}},
		{stylePisa, 1215, 3, 24, []int64{1215}}, {stylePisa, 1215, 3, 25, []int64{1214}}, {stylePisa, 2, 3, 25, []int64{1}},
		{styleChristmas, 1215, 12, 24, []int64{1215}}, {styleChristmas, 1215, 12, 25, []int64{1214}}, {styleChristmas, 2, 12, 31, []int64{1}},
		{styleSeptember, 1215, 8, 31, []int64{1215}}, {styleSeptember, 1215, 9, 1, []int64{1214}}, {styleSeptember, 2, 12, 31, []int64{1}},
	} {
		var want []int64
		for _, year := range c.inYears {
			want = append(want, oldNumber(year, c.month, c.day))
		}
		if list, code := impl.DaysWith(c.style, c.year, c.month, c.day); !slices.Equal(list, want) || code != impl.ErrNone {
			t.Errorf("DaysWith(%d, %d, %d, %d) = %v, %d; want %v", c.style, c.year, c.month, c.day, list, code, want)
		}
	}
}

// TestLeapDaysOfStyles asks for February 29 in years around a leap year; the year has it that has the
// February of 1216, 4 or 2000.
func TestLeapDaysOfStyles(t *testing.T) {
	for _, c := range []struct{ style, year, leapYear int64 }{
		{styleJanuary, 1216, 1216}, {styleMarch, 1215, 1216}, {styleLady, 1215, 1216}, {stylePisa, 1216, 1216}, {styleEaster, 1215, 1216},
		{styleChristmas, 1216, 1216}, {styleSeptember, 1216, 1216}, {styleJanuary, 4, 4}, {styleMarch, 3, 4}, {styleLady, 3, 4}, {stylePisa, 4, 4},
		{styleEaster, 3, 4}, {styleChristmas, 4, 4}, {styleSeptember, 4, 4}, {styleMarch, 1999, 2000}, {styleLady, 1999, 2000}, {styleEaster, 1999, 2000},
	} {
		want := []int64{oldNumber(c.leapYear, 2, 29)}
		if list, code := impl.DaysWith(c.style, c.year, 2, 29); !slices.Equal(list, want) || code != impl.ErrNone {
			t.Errorf("DaysWith(%d, %d, 2, 29) = %v, %d; want %v", c.style, c.year, list, code, want)
		}
		for _, by := range []int64{-1, 1, 2, 3} {
			if !isStyleYear(c.year + by) {
				continue
			}
			if list, code := impl.DaysWith(c.style, c.year+by, 2, 29); len(list) != 0 || code != impl.ErrNone {
				t.Errorf("DaysWith(%d, %d, 2, 29) = %v, %d; want none", c.style, c.year+by, list, code)
			}
		}
	}
}

// TestDaysWithAllDates has all dates in all years of all styles, and finds each day of the year once.
func TestDaysWithAllDates(t *testing.T) {
	for style := range int64(7) {
		for year := int64(2); year <= 1999; year++ {
			dates, count := datesOfYear(style, year), int64(0)
			for month := int64(1); month <= 12; month++ {
				for day := int64(1); day <= lengthOf(month, true); day++ {
					list, code := impl.DaysWith(style, year, month, day)
					if want := dates[[2]int64{month, day}]; !slices.Equal(list, want) || code != impl.ErrNone {
						t.Errorf("DaysWith(%d, %d, %d, %d) = %v, %d; want %v", style, year, month, day, list, code, want)
					}
					count += int64(len(list))
				}
			}
			if length, _ := impl.LengthOfYear(style, year); count != length {
				t.Errorf("%d days by their dates in the year %d of style %d, which has %d", count, year, style, length)
			}
		}
	}
}

// TestDaysWithDatesThatAreNone has months and days that are no old date of the year 4, the styles and the
// years at and behind their limits.
func TestDaysWithDatesThatAreNone(t *testing.T) {
	for style := int64(-1); style <= 7; style++ {
		for _, year := range []int64{0, 1, 2, 3, 4, 1209, 1998, 1999, 2000, 2001} {
			for month := int64(-1); month <= 14; month++ {
				for day := int64(-1); day <= 33; day++ {
					checkDaysWith(t, style, year, month, day)
				}
			}
		}
	}
	for _, d := range [][2]int64{{2, 30}, {2, 31}, {4, 31}, {6, 31}, {9, 31}, {11, 31}, {1, 32}, {12, 32}, {1, 0}, {0, 1}, {13, 1}, {0, 0}, {12, -1}} {
		if list, code := impl.DaysWith(styleEaster, 1209, d[0], d[1]); len(list) != 0 || code != impl.ErrRange {
			t.Errorf("DaysWith month %d and day %d = %v, %d", d[0], d[1], list, code)
		}
	}
}

// TestStylesForAllDays asks, for each day, for its old year and those within two years of it.
func TestStylesForAllDays(t *testing.T) {
	for n, d := range walked().oldDates {
		for by := int64(-2); by <= 2; by++ {
			checkStylesFor(t, int64(n), d.Year+by)
		}
	}
}

// TestKnownStylesForDays has days that all styles tell, and days that only some or none tell.
func TestKnownStylesForDays(t *testing.T) {
	for _, c := range []struct {
		d      impl.Date
		year   int64
		styles []int64
	}{
		{impl.Date{Year: 1216, Month: 2, Day: 3}, 1215, []int64{styleMarch, styleLady, styleEaster}},
		{impl.Date{Year: 1216, Month: 2, Day: 3}, 1216, []int64{styleJanuary, stylePisa, styleChristmas, styleSeptember}},
		{impl.Date{Year: 1216, Month: 2, Day: 3}, 1217, nil},
		{impl.Date{Year: 1216, Month: 2, Day: 3}, 1214, nil},
		{impl.Date{Year: 1216, Month: 2, Day: 3}, 2, nil},
		{impl.Date{Year: 1216, Month: 2, Day: 3}, 1999, nil},
		{impl.Date{Year: 1216, Month: 6, Day: 24}, 1216, []int64{styleJanuary, styleMarch, styleLady, styleEaster, styleChristmas, styleSeptember}},
		{impl.Date{Year: 1216, Month: 6, Day: 24}, 1217, []int64{stylePisa}},
		{impl.Date{Year: 1216, Month: 12, Day: 25}, 1217, []int64{stylePisa, styleChristmas, styleSeptember}},
		{impl.Date{Year: 1216, Month: 12, Day: 25}, 1216, []int64{styleJanuary, styleMarch, styleLady, styleEaster}},
		{impl.Date{Year: 1, Month: 1, Day: 1}, 2, nil},
		{impl.Date{Year: 1, Month: 3, Day: 24}, 2, nil},
		{impl.Date{Year: 1, Month: 3, Day: 25}, 2, []int64{stylePisa}},
		{impl.Date{Year: 1, Month: 9, Day: 1}, 2, []int64{stylePisa, styleSeptember}},
		{impl.Date{Year: 1, Month: 12, Day: 25}, 2, []int64{stylePisa, styleChristmas, styleSeptember}},
		{impl.Date{Year: 2, Month: 1, Day: 1}, 2, []int64{styleJanuary, stylePisa, styleChristmas, styleSeptember}},
		{impl.Date{Year: 2, Month: 1, Day: 1}, 3, nil},
		{impl.Date{Year: 2, Month: 3, Day: 25}, 2, []int64{styleJanuary, styleMarch, styleLady, styleChristmas, styleSeptember}},
		{impl.Date{Year: 2, Month: 4, Day: 16}, 2, []int64{styleJanuary, styleMarch, styleLady, styleEaster, styleChristmas, styleSeptember}},
		{impl.Date{Year: 1999, Month: 3, Day: 24}, 1999, []int64{styleJanuary, styleMarch, stylePisa, styleChristmas, styleSeptember}},
		{impl.Date{Year: 1999, Month: 12, Day: 31}, 1999, []int64{styleJanuary, styleMarch, styleLady, styleEaster}},
		{impl.Date{Year: 2000, Month: 1, Day: 1}, 1999, []int64{styleMarch, styleLady, styleEaster}},
		{impl.Date{Year: 2000, Month: 3, Day: 24}, 1999, []int64{styleLady, styleEaster}},
		{impl.Date{Year: 2000, Month: 4, Day: 16}, 1999, []int64{styleEaster}},
		{impl.Date{Year: 2000, Month: 4, Day: 17}, 1999, nil},
		{impl.Date{Year: 2000, Month: 12, Day: 31}, 1999, nil},
	} {
		if list, code := impl.StylesFor(dateNumber(c.d), c.year); !slices.Equal(list, c.styles) || code != impl.ErrNone {
			t.Errorf("StylesFor %v, %d = %v, %d; want %v", c.d, c.year, list, code, c.styles)
		}
	}
}

func TestErrorsOfStylesFor(t *testing.T) {
	for _, c := range []struct{ n, year, code int64 }{
		{0, 2, impl.ErrNone}, {0, 1, impl.ErrRange}, {0, 0, impl.ErrRange}, {0, 1999, impl.ErrNone}, {0, 2000, impl.ErrRange},
		{-1, 2, impl.ErrRange}, {-1, 1, impl.ErrRange}, {impl.MaxDay, 1999, impl.ErrNone}, {impl.MaxDay, 2, impl.ErrNone},
		{impl.MaxDay, 2000, impl.ErrRange}, {impl.MaxDay + 1, 1999, impl.ErrRange}, {impl.MaxDay + 1, 2000, impl.ErrRange},
	} {
		if list, code := impl.StylesFor(c.n, c.year); len(list) != 0 || code != c.code {
			t.Errorf("StylesFor(%d, %d) = %v, %d; want code %d", c.n, c.year, list, code, c.code)
		}
	}
}

// TestYearDifferences has two styles for each day, all pairs in turn, and all pairs for the days at both
// ends, of which some styles tell more than others, and for some between.
func TestYearDifferences(t *testing.T) {
	for n := int64(0); n <= impl.MaxDay; n++ {
		checkYearDifference(t, n%7, n/7%7, n)
		if n%397 != 0 && n > 900 && n < impl.MaxDay-800 {
			continue
		}
		for one := int64(-1); one <= 7; one++ {
			for two := int64(-1); two <= 7; two++ {
				checkYearDifference(t, one, two, n)
			}
		}
	}
}

// TestErrorsOfYearDifference has days that one style tells and the other does not, and styles and days
// that are none: these come first, whichever of the two styles it is.
func TestErrorsOfYearDifference(t *testing.T) {
	early := oldNumber(1, 12, 31)
	late := oldNumber(2000, 1, 1)
	for _, c := range []struct{ one, two, n, by, code int64 }{
		{stylePisa, styleSeptember, early, 0, impl.ErrNone}, {stylePisa, styleChristmas, early, 0, impl.ErrNone},
		{stylePisa, styleJanuary, early, 0, impl.ErrNotFound}, {styleJanuary, stylePisa, early, 0, impl.ErrNotFound},
		{styleMarch, styleEaster, late, 0, impl.ErrNone}, {styleMarch, styleJanuary, late, 0, impl.ErrNotFound},
		{styleJanuary, styleMarch, late, 0, impl.ErrNotFound}, {styleJanuary, stylePisa, late, 0, impl.ErrNotFound},
		{styleLady, 7, early, 0, impl.ErrRange}, {7, styleLady, early, 0, impl.ErrRange}, {styleLady, -1, early, 0, impl.ErrRange},
		{-1, styleLady, late, 0, impl.ErrRange}, {-1, 7, 433370, 0, impl.ErrRange}, {styleLady, 7, 433370, 0, impl.ErrRange},
		{styleLady, stylePisa, -1, 0, impl.ErrRange}, {styleLady, stylePisa, impl.MaxDay + 1, 0, impl.ErrRange},
		{styleLady, stylePisa, 0, 0, impl.ErrNotFound}, {styleLady, stylePisa, impl.MaxDay, 0, impl.ErrNotFound},
		{styleLady, stylePisa, 433370, 1, impl.ErrNone}, {stylePisa, styleLady, 433370, -1, impl.ErrNone},
	} {
		if by, code := impl.YearDifference(c.one, c.two, c.n); by != c.by || code != c.code {
			t.Errorf("YearDifference(%d, %d, %d) = %d, %d; want %d, %d", c.one, c.two, c.n, by, code, c.by, c.code)
		}
	}
}

// TestErrorsOfYearOn has days that no style tells with styles that are none.
func TestErrorsOfYearOn(t *testing.T) {
	for _, c := range []struct{ style, n, code int64 }{
		{styleJanuary, 0, impl.ErrNotFound}, {-1, 0, impl.ErrRange}, {7, 0, impl.ErrRange}, {styleSeptember, impl.MaxDay, impl.ErrNotFound},
		{7, impl.MaxDay, impl.ErrRange}, {-1, impl.MaxDay, impl.ErrRange}, {-1, -1, impl.ErrRange}, {styleSeptember, impl.MaxDay + 1, impl.ErrRange},
		{styleJanuary, -1, impl.ErrRange}, {-1, 433370, impl.ErrRange}, {7, 433370, impl.ErrRange},
	} {
		if year, code := impl.YearOn(c.style, c.n); year != 0 || code != c.code {
			t.Errorf("YearOn(%d, %d) = %d, %d; want code %d", c.style, c.n, year, code, c.code)
		}
	}
}

// TestStylesOfExtremeNumbers puts each extreme in each place, and two of them in any two.
func TestStylesOfExtremeNumbers(t *testing.T) {
	for _, one := range append([]int64{-1, 0, 1, 7, 13, 32, 2000, impl.MaxDay + 1}, extremes...) {
		for i := range 4 {
			args := [4]int64{styleEaster, 1209, 4, 1}
			args[i] = one
			checkDaysWith(t, args[0], args[1], args[2], args[3])
			for _, two := range extremes {
				for j := range 4 {
					pair := args
					pair[j] = two
					checkDaysWith(t, pair[0], pair[1], pair[2], pair[3])
				}
			}
		}
		for _, two := range append([]int64{0, styleEaster, 2, 1999, impl.MaxDay}, extremes...) {
			checkPairs(t, one, two)
			checkPairs(t, two, one)
		}
	}
}

// checkPairs puts two numbers in all places of the functions that have two or three.
func checkPairs(t *testing.T, one int64, two int64) {
	t.Helper()
	checkStyleYear(t, one, two)
	checkYearOn(t, one, two)
	checkStylesFor(t, one, two)
	checkYearDifference(t, one, two, 433370)
	checkYearDifference(t, one, styleLady, two)
	checkYearDifference(t, styleLady, one, two)
}

func TestRandomDaysWith(t *testing.T) {
	random := rand.New(rand.NewSource(6))
	for range 5000 {
		checkDaysWith(t, random.Int63n(7), 2+random.Int63n(1998), 1+random.Int63n(12), 1+random.Int63n(32))
	}
}

func TestNamesOfStyles(t *testing.T) {
	for style, known := range knownStyles {
		if name := impl.StyleName(int64(style)); name != known.name {
			t.Errorf("StyleName(%d) = %q; want %q", style, name, known.name)
		}
		if number, ok := impl.StyleNamed(known.name); number != int64(style) || !ok {
			t.Errorf("StyleNamed(%q) = %d, %v; want %d", known.name, number, ok, style)
		}
	}
	for _, style := range append([]int64{-2, 7, 8, 16}, extremes...) {
		if name := impl.StyleName(style); name != "" {
			t.Errorf("StyleName(%d) = %q", style, name)
		}
	}
}

// TestTextsThatAreNoStyles has texts that are nearly names, and names of other things.
func TestTextsThatAreNoStyles(t *testing.T) {
	texts := []string{"", " ", "0", "4", "-", "april", "december", "roman", "greek", "pentecost", "annunciation", "ladyday", "lady day", "january,march"}
	for _, known := range knownStyles {
		texts = append(texts, nearly(known.name)...)
	}
	for _, text := range texts {
		if style, ok := impl.StyleNamed(text); style != 0 || ok {
			t.Errorf("StyleNamed(%q) = %d, %v", text, style, ok)
		}
	}
}

// TestStylesGiveNewMemory writes over lists, and what lies behind them, and asks again.
func TestStylesGiveNewMemory(t *testing.T) {
	n := oldNumber(1216, 2, 3)
	days, _ := impl.DaysWith(styleEaster, 1209, 4, 1)
	otherDays, _ := impl.DaysWith(styleEaster, 1209, 4, 1)
	list, _ := impl.StylesFor(n, 1215)
	other, _ := impl.StylesFor(n, 1215)
	for i := range days[:cap(days)] {
		days[:cap(days)][i] = -7
	}
	for i := range list[:cap(list)] {
		list[:cap(list)][i] = -7
	}
	wantDays := []int64{oldNumber(1209, 4, 1), oldNumber(1210, 4, 1)}
	if !slices.Equal(otherDays, wantDays) || !slices.Equal(other, []int64{styleMarch, styleLady, styleEaster}) {
		t.Errorf("lists were written to with other ones: %v, %v", otherDays, other)
	}
	checkDaysWith(t, styleEaster, 1209, 4, 1)
	checkStylesFor(t, n, 1215)
}
