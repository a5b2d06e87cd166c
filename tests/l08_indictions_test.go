package tests

import (
	"fmt"
	"math"
	"math/rand"
	"slices"
	"sync"
	"testing"

	"loop.example/g01034/impl"
)

// The kinds of indiction by their numbers, as the document tells them.
const (
	greek = 0
	bede  = 1
	roman = 2
)

// indictionTurns are, by the kinds, the months and days from which on the next indiction is counted.
var indictionTurns = [3][2]int64{{9, 1}, {9, 24}, {1, 1}}

// knownEpacts are the epacts by the remainders of the years by 19: eleven more each year, within 30.
var knownEpacts = [19]int64{0, 11, 22, 3, 14, 25, 6, 17, 28, 9, 20, 1, 12, 23, 4, 15, 26, 7, 18}

// cycles holds the indictions of all days by the kinds, and the marks of all years. They are found by
// counting on from day to day. It is the reference for all tests of indictions and marks.
type cycles struct {
	days  [3][]int64
	marks [2001]impl.YearMark
}

var cycleCalendar = sync.OnceValue(func() *cycles {
	c := &cycles{}
	counts := [3]int64{4, 4, 4} // on the first day, which is a Saturday
	weekday := int64(7)
	for n, d := range walked().oldDates {
		for kind, turn := range indictionTurns {
			if n > 0 && d.Month == turn[0] && d.Day == turn[1] {
				counts[kind] = counts[kind]%15 + 1
			}
			c.days[kind] = append(c.days[kind], counts[kind])
		}
		if d.Month == 3 && d.Day == 24 {
			c.marks[d.Year] = impl.YearMark{Indiction: counts[roman], Epact: knownEpacts[d.Year%19], Concurrent: weekday}
		}
		weekday = weekday%7 + 1
	}
	return c
})

func isKind(kind int64) bool { return kind >= 0 && kind <= 2 }

// isMark tells whether m is a mark.
func isMark(m impl.YearMark) bool {
	return m.Indiction >= 0 && m.Indiction <= 15 && m.Epact >= -1 && m.Epact <= 29 && m.Concurrent >= 0 && m.Concurrent <= 7
}

// indictionOn tells what IndictionOn has to return.
func indictionOn(kind int64, n int64) (int64, int64) {
	if !isKind(kind) || !isDayNumber(n) {
		return 0, impl.ErrRange
	}
	return cycleCalendar().days[kind][n], impl.ErrNone
}

// indictionDays tells what IndictionDays has to return; it looks at all days of the range.
func indictionDays(kind int64, indiction int64, from int64, to int64) ([]impl.Span, int64) {
	if !isKind(kind) || indiction < 1 || indiction > 15 {
		return nil, impl.ErrRange
	}
	if !isDayNumber(from) || !isDayNumber(to) || from > to || from < to-40000 {
		return nil, impl.ErrRange
	}
	return daysIf(from, to, func(n int64) bool { return cycleCalendar().days[kind][n] == indiction }), impl.ErrNone
}

// yearsMarked tells what YearsMarked has to return; it looks at all years of the range.
func yearsMarked(m impl.YearMark, from int64, to int64) ([]int64, int64) {
	if !isMark(m) {
		return nil, impl.ErrInvalid
	}
	if !isYear(from) || !isYear(to) || from > to || from < to-600 {
		return nil, impl.ErrRange
	}
	var years []int64
	for year := from; year <= to; year++ {
		own := cycleCalendar().marks[year]
		indiction := m.Indiction == 0 || m.Indiction == own.Indiction
		epact := m.Epact == -1 || m.Epact == own.Epact
		concurrent := m.Concurrent == 0 || m.Concurrent == own.Concurrent
		if indiction && epact && concurrent {
			years = append(years, year)
		}
	}
	return years, impl.ErrNone
}

func checkIndictionOn(t *testing.T, kind int64, n int64) {
	t.Helper()
	want, wantCode := indictionOn(kind, n)
	if indiction, code := impl.IndictionOn(kind, n); indiction != want || code != wantCode {
		t.Errorf("IndictionOn(%d, %d) = %d, %d; want %d, %d", kind, n, indiction, code, want, wantCode)
	}
}

func checkIndictionDays(t *testing.T, kind int64, indiction int64, from int64, to int64) {
	t.Helper()
	want, wantCode := indictionDays(kind, indiction, from, to)
	set, code := impl.IndictionDays(kind, indiction, from, to)
	if !slices.Equal(set, want) || code != wantCode || !impl.IsSet(set) {
		t.Errorf("IndictionDays(%d, %d, %d, %d) = %v, %d; want %v, %d", kind, indiction, from, to, set, code, want, wantCode)
	}
}

// checkMarkOf compares the four functions of a year alone.
func checkMarkOf(t *testing.T, year int64) {
	t.Helper()
	want, wantCode := impl.YearMark{}, int64(impl.ErrRange)
	if isYear(year) {
		want, wantCode = cycleCalendar().marks[year], impl.ErrNone
	}
	if indiction, code := impl.IndictionOf(year); indiction != want.Indiction || code != wantCode {
		t.Errorf("IndictionOf(%d) = %d, %d; want %d, %d", year, indiction, code, want.Indiction, wantCode)
	}
	if epact, code := impl.EpactOf(year); epact != want.Epact || code != wantCode {
		t.Errorf("EpactOf(%d) = %d, %d; want %d, %d", year, epact, code, want.Epact, wantCode)
	}
	if concurrent, code := impl.ConcurrentOf(year); concurrent != want.Concurrent || code != wantCode {
		t.Errorf("ConcurrentOf(%d) = %d, %d; want %d, %d", year, concurrent, code, want.Concurrent, wantCode)
	}
	if m, code := impl.MarkOf(year); m != want || code != wantCode {
		t.Errorf("MarkOf(%d) = %v, %d; want %v, %d", year, m, code, want, wantCode)
	}
}

func checkYearsMarked(t *testing.T, m impl.YearMark, from int64, to int64) {
	t.Helper()
	want, wantCode := yearsMarked(m, from, to)
	if years, code := impl.YearsMarked(m, from, to); !slices.Equal(years, want) || code != wantCode {
		t.Errorf("YearsMarked(%v, %d, %d) = %v, %d; want %v, %d", m, from, to, years, code, want, wantCode)
	}
}

// eachMark calls for all marks.
func eachMark(call func(m impl.YearMark)) {
	for indiction := range int64(16) {
		for epact := int64(-1); epact <= 29; epact++ {
			for concurrent := range int64(8) {
				call(impl.YearMark{Indiction: indiction, Epact: epact, Concurrent: concurrent})
			}
		}
	}
}

func TestNumbersOfIndictions(t *testing.T) {
	numbers := [...]int64{impl.IndictionGreek, impl.IndictionBede, impl.IndictionRoman, impl.MaxIndictionGap}
	if numbers != [...]int64{0, 1, 2, 40000} {
		t.Errorf("kinds and gap %v", numbers)
	}
}

// TestIndictionsAreTheSameAfterFifteenYears is promise 8, for all days, with nothing but what the program
// returns: the same date fifteen years later has the same indiction, and the dates of the years between
// have all the other ones, each the next. February 29 comes again after sixty years.
func TestIndictionsAreTheSameAfterFifteenYears(t *testing.T) {
	for kind := range int64(3) {
		for n := int64(0); n <= impl.MaxDay; n++ {
			d, _ := impl.OldDate(n)
			first, code := impl.IndictionOn(kind, n)
			if code != impl.ErrNone || first < 1 || first > 15 {
				t.Fatalf("IndictionOn(%d, %d) = %d, %d", kind, n, first, code)
			}
			for _, years := range []int64{1, 14, 15, 16, 30, 60, 1500} {
				later, code := impl.OldDay(impl.Date{Year: d.Year + years, Month: d.Month, Day: d.Day})
				if code != impl.ErrNone {
					continue // behind the last year, or a February 29 that there is not
				}
				want := (first-1+years)%15 + 1
				if indiction, code := impl.IndictionOn(kind, later); indiction != want || code != impl.ErrNone {
					t.Errorf("IndictionOn(%d) = %d on %v, but %d, %d after %d years", kind, first, d, indiction, code, years)
				}
			}
		}
	}
	for year := int64(1); year <= 1985; year++ {
		first, _ := impl.IndictionOf(year)
		if later, code := impl.IndictionOf(year + 15); later != first || code != impl.ErrNone {
			t.Errorf("IndictionOf(%d) = %d, IndictionOf(%d) = %d, %d", year, first, year+15, later, code)
		}
	}
}

// TestEachYearHasItsOwnMark finds each year by its mark, alone and among others, and finds no year by it
// that has another mark.
func TestEachYearHasItsOwnMark(t *testing.T) {
	for year := int64(1); year <= 2000; year++ {
		m, code := impl.MarkOf(year)
		if code != impl.ErrNone || !impl.IsYearMark(m) || m.Indiction == 0 || m.Epact == -1 || m.Concurrent == 0 {
			t.Fatalf("MarkOf(%d) = %v, %d", year, m, code)
		}
		if alone, code := impl.YearsMarked(m, year, year); !slices.Equal(alone, []int64{year}) || code != impl.ErrNone {
			t.Errorf("YearsMarked(%v, %d, %d) = %v, %d", m, year, year, alone, code)
		}
		among, code := impl.YearsMarked(m, max(year-300, 1), min(year+300, 2000))
		if !slices.Contains(among, year) || code != impl.ErrNone {
			t.Errorf("YearsMarked(%v) around %d = %v, %d", m, year, among, code)
		}
		for _, other := range among {
			if own, _ := impl.MarkOf(other); own != m {
				t.Errorf("YearsMarked(%v) around %d has %d, whose mark is %v", m, year, other, own)
			}
		}
	}
}

// TestIndictionsOfAllDays has all kinds and one more and one less, and all days and some beyond them.
func TestIndictionsOfAllDays(t *testing.T) {
	for kind := int64(-1); kind <= 3; kind++ {
		for n := int64(-400); n <= impl.MaxDay+400; n++ {
			checkIndictionOn(t, kind, n)
		}
	}
}

func TestMarksOfAllYears(t *testing.T) {
	for year := int64(-100); year <= 2100; year++ {
		checkMarkOf(t, year)
	}
}

// TestKnownMarks has the first and the last years, years with the indictions 1 and 15, with the epact 0 and
// with the greatest one that a year has, each weekday of March 24, and leap years.
func TestKnownMarks(t *testing.T) {
	for _, c := range []struct {
		year int64
		mark impl.YearMark
	}{
		{1, impl.YearMark{Indiction: 4, Epact: 11, Concurrent: 5}}, {2, impl.YearMark{Indiction: 5, Epact: 22, Concurrent: 6}},
		{3, impl.YearMark{Indiction: 6, Epact: 3, Concurrent: 7}}, {4, impl.YearMark{Indiction: 7, Epact: 14, Concurrent: 2}},
		{5, impl.YearMark{Indiction: 8, Epact: 25, Concurrent: 3}}, {6, impl.YearMark{Indiction: 9, Epact: 6, Concurrent: 4}},
		{8, impl.YearMark{Indiction: 11, Epact: 28, Concurrent: 7}}, {12, impl.YearMark{Indiction: 15, Epact: 12, Concurrent: 5}},
		{13, impl.YearMark{Indiction: 1, Epact: 23, Concurrent: 6}}, {19, impl.YearMark{Indiction: 7, Epact: 0, Concurrent: 6}},
		{312, impl.YearMark{Indiction: 15, Epact: 28, Concurrent: 2}}, {313, impl.YearMark{Indiction: 1, Epact: 9, Concurrent: 3}},
		{1200, impl.YearMark{Indiction: 3, Epact: 3, Concurrent: 6}}, {1212, impl.YearMark{Indiction: 15, Epact: 15, Concurrent: 7}},
		{1213, impl.YearMark{Indiction: 1, Epact: 26, Concurrent: 1}}, {1214, impl.YearMark{Indiction: 2, Epact: 7, Concurrent: 2}},
		{1215, impl.YearMark{Indiction: 3, Epact: 18, Concurrent: 3}}, {1216, impl.YearMark{Indiction: 4, Epact: 0, Concurrent: 5}},
		{1217, impl.YearMark{Indiction: 5, Epact: 11, Concurrent: 6}}, {1500, impl.YearMark{Indiction: 3, Epact: 18, Concurrent: 3}},
		{1999, impl.YearMark{Indiction: 7, Epact: 14, Concurrent: 3}}, {2000, impl.YearMark{Indiction: 8, Epact: 25, Concurrent: 5}},
	} {
		if m, code := impl.MarkOf(c.year); m != c.mark || code != impl.ErrNone {
			t.Errorf("MarkOf(%d) = %v, %d; want %v", c.year, m, code, c.mark)
		}
		checkMarkOf(t, c.year)
	}
}

// TestYearsWithoutMark has the years beside the first and the last one, and extremes.
func TestYearsWithoutMark(t *testing.T) {
	for _, year := range append([]int64{0, 2001, 2002, impl.MaxDay}, extremes...) {
		checkMarkOf(t, year)
	}
}

// TestKnownIndictions has the days around the turns of the three kinds, in years at both ends of the days
// and where the indictions begin anew.
func TestKnownIndictions(t *testing.T) {
	for _, c := range []struct {
		d                   impl.Date
		greek, bede, romans int64
	}{
		{impl.Date{Year: 1, Month: 1, Day: 1}, 4, 4, 4}, {impl.Date{Year: 1, Month: 8, Day: 31}, 4, 4, 4}, {impl.Date{Year: 1, Month: 9, Day: 1}, 5, 4, 4},
		{impl.Date{Year: 1, Month: 9, Day: 23}, 5, 4, 4}, {impl.Date{Year: 1, Month: 9, Day: 24}, 5, 5, 4}, {impl.Date{Year: 1, Month: 12, Day: 31}, 5, 5, 4},
		{impl.Date{Year: 2, Month: 1, Day: 1}, 5, 5, 5}, {impl.Date{Year: 312, Month: 8, Day: 31}, 15, 15, 15}, {impl.Date{Year: 312, Month: 9, Day: 1}, 1, 15, 15},
		{impl.Date{Year: 312, Month: 9, Day: 24}, 1, 1, 15}, {impl.Date{Year: 312, Month: 12, Day: 31}, 1, 1, 15}, {impl.Date{Year: 313, Month: 1, Day: 1}, 1, 1, 1},
		{impl.Date{Year: 1215, Month: 1, Day: 1}, 3, 3, 3}, {impl.Date{Year: 1215, Month: 8, Day: 31}, 3, 3, 3}, {impl.Date{Year: 1215, Month: 9, Day: 1}, 4, 3, 3},
		{impl.Date{Year: 1215, Month: 9, Day: 23}, 4, 3, 3}, {impl.Date{Year: 1215, Month: 9, Day: 24}, 4, 4, 3}, {impl.Date{Year: 1215, Month: 12, Day: 31}, 4, 4, 3},
		{impl.Date{Year: 1216, Month: 2, Day: 29}, 4, 4, 4}, {impl.Date{Year: 1216, Month: 8, Day: 31}, 4, 4, 4}, {impl.Date{Year: 1216, Month: 9, Day: 1}, 5, 4, 4},
		{impl.Date{Year: 1216, Month: 9, Day: 24}, 5, 5, 4}, {impl.Date{Year: 1216, Month: 10, Day: 1}, 5, 5, 4}, {impl.Date{Year: 2000, Month: 1, Day: 1}, 8, 8, 8},
		{impl.Date{Year: 2000, Month: 8, Day: 31}, 8, 8, 8}, {impl.Date{Year: 2000, Month: 9, Day: 1}, 9, 8, 8}, {impl.Date{Year: 2000, Month: 9, Day: 23}, 9, 8, 8},
		{impl.Date{Year: 2000, Month: 9, Day: 24}, 9, 9, 8}, {impl.Date{Year: 2000, Month: 12, Day: 31}, 9, 9, 8},
	} {
		n := dateNumber(c.d)
		for kind, want := range []int64{c.greek, c.bede, c.romans} {
			if indiction, code := impl.IndictionOn(int64(kind), n); indiction != want || code != impl.ErrNone {
				t.Errorf("IndictionOn(%d) on %v = %d, %d; want %d", kind, c.d, indiction, code, want)
			}
		}
	}
}

// TestErrorsOfIndictionOn has kinds and days that are none, one of the two and both.
func TestErrorsOfIndictionOn(t *testing.T) {
	for _, c := range []struct{ kind, n, indiction, code int64 }{
		{greek, 0, 4, impl.ErrNone}, {bede, 0, 4, impl.ErrNone}, {roman, 0, 4, impl.ErrNone}, {greek, lastDay, 9, impl.ErrNone}, {bede, lastDay, 9, impl.ErrNone},
		{roman, lastDay, 8, impl.ErrNone}, {-1, 0, 0, impl.ErrRange}, {3, 0, 0, impl.ErrRange}, {-1, lastDay, 0, impl.ErrRange}, {3, lastDay, 0, impl.ErrRange},
		{greek, -1, 0, impl.ErrRange}, {bede, -1, 0, impl.ErrRange}, {roman, -1, 0, impl.ErrRange}, {greek, lastDay + 1, 0, impl.ErrRange},
		{bede, lastDay + 1, 0, impl.ErrRange}, {roman, lastDay + 1, 0, impl.ErrRange}, {3, -1, 0, impl.ErrRange}, {-1, lastDay + 1, 0, impl.ErrRange},
	} {
		if indiction, code := impl.IndictionOn(c.kind, c.n); indiction != c.indiction || code != c.code {
			t.Errorf("IndictionOn(%d, %d) = %d, %d; want %d, %d", c.kind, c.n, indiction, code, c.indiction, c.code)
		}
	}
}

// TestKnownIndictionDays has whole indictions and parts of them, at both ends of the days and between.
func TestKnownIndictionDays(t *testing.T) {
	at := oldNumber
	for _, c := range []struct {
		kind, indiction, from, to int64
		want                      []impl.Span
	}{
		{greek, 3, at(1214, 1, 1), at(1216, 12, 31), []impl.Span{{From: at(1214, 9, 1), To: at(1215, 8, 31)}}},
		{bede, 3, at(1214, 1, 1), at(1216, 12, 31), []impl.Span{{From: at(1214, 9, 24), To: at(1215, 9, 23)}}},
		{roman, 3, at(1214, 1, 1), at(1216, 12, 31), []impl.Span{{From: at(1215, 1, 1), To: at(1215, 12, 31)}}},
		{greek, 3, at(1215, 1, 1), at(1230, 1, 1), []impl.Span{{From: at(1215, 1, 1), To: at(1215, 8, 31)}, {From: at(1229, 9, 1), To: at(1230, 1, 1)}}},
		{bede, 3, at(1215, 9, 23), at(1229, 9, 24), []impl.Span{{From: at(1215, 9, 23), To: at(1215, 9, 23)}, {From: at(1229, 9, 24), To: at(1229, 9, 24)}}},
		{bede, 3, at(1215, 9, 24), at(1229, 9, 23), nil},
		{roman, 3, at(1215, 12, 31), at(1230, 1, 1), []impl.Span{{From: at(1215, 12, 31), To: at(1215, 12, 31)}, {From: at(1230, 1, 1), To: at(1230, 1, 1)}}},
		{roman, 3, at(1216, 1, 1), at(1229, 12, 31), nil},
		{roman, 3, at(1216, 1, 1), at(1216, 1, 1), nil},
		{greek, 4, at(1215, 9, 1), at(1216, 8, 31), []impl.Span{{From: at(1215, 9, 1), To: at(1216, 8, 31)}}},
		{greek, 4, at(1215, 9, 1), at(1215, 9, 1), []impl.Span{{From: at(1215, 9, 1), To: at(1215, 9, 1)}}},
		{greek, 4, at(1215, 8, 31), at(1215, 8, 31), nil},
		{greek, 4, at(1215, 12, 31), at(1215, 12, 31), []impl.Span{{From: at(1215, 12, 31), To: at(1215, 12, 31)}}},
		{greek, 4, 0, 364, []impl.Span{{From: 0, To: 242}}}, {bede, 4, 0, 364, []impl.Span{{From: 0, To: 265}}}, {roman, 4, 0, 365, []impl.Span{{From: 0, To: 364}}},
		{greek, 4, 0, 0, []impl.Span{{From: 0, To: 0}}}, {bede, 4, 0, 0, []impl.Span{{From: 0, To: 0}}}, {roman, 4, 0, 0, []impl.Span{{From: 0, To: 0}}},
		{greek, 5, 0, 364, []impl.Span{{From: 243, To: 364}}}, {bede, 5, 0, 364, []impl.Span{{From: 266, To: 364}}}, {roman, 5, 0, 364, nil}, {greek, 3, 0, 364, nil},
		{greek, 9, lastDay - 365, lastDay, []impl.Span{{From: lastDay - 121, To: lastDay}}}, {bede, 9, lastDay - 365, lastDay, []impl.Span{{From: lastDay - 98, To: lastDay}}},
		{roman, 9, lastDay - 365, lastDay, nil}, {greek, 9, lastDay, lastDay, []impl.Span{{From: lastDay, To: lastDay}}}, {bede, 9, lastDay, lastDay, []impl.Span{{From: lastDay, To: lastDay}}},
		{roman, 8, lastDay - 366, lastDay, []impl.Span{{From: lastDay - 365, To: lastDay}}}, {greek, 8, lastDay, lastDay, nil}, {roman, 8, lastDay, lastDay, []impl.Span{{From: lastDay, To: lastDay}}},
	} {
		set, code := impl.IndictionDays(c.kind, c.indiction, c.from, c.to)
		checkSpans(t, fmt.Sprintf("IndictionDays(%d, %d, %d, %d)", c.kind, c.indiction, c.from, c.to), set, code, c.want)
	}
}

// TestIndictionDaysAroundTurns has ranges that begin and end on the days around all turns of sixteen
// years, in the middle between them, and on the first and the last day.
func TestIndictionDaysAroundTurns(t *testing.T) {
	for _, year := range []int64{1, 1204, 1985} {
		for kind := range int64(3) {
			edges := []int64{oldNumber(year, 1, 1), oldNumber(year+15, 12, 31)}
			for _, y := range []int64{year, year + 1, year + 14, year + 15} {
				turn := oldNumber(y, indictionTurns[kind][0], indictionTurns[kind][1])
				edges = append(edges, turn-1, turn, turn+1, turn+60)
			}
			for _, from := range edges {
				for _, to := range edges {
					for _, indiction := range []int64{1, 3, 4, 5, 8, 9, 10, 15} {
						checkIndictionDays(t, kind, indiction, from, to)
					}
				}
			}
		}
	}
}

// TestEachDayIsInOneIndiction counts the days of all indictions of a kind together, in ranges of the
// greatest length over all days.
func TestEachDayIsInOneIndiction(t *testing.T) {
	for kind := range int64(3) {
		for from := int64(0); from <= lastDay; from += 40001 {
			to := min(from+40000, lastDay)
			var all []impl.Span
			count := int64(0)
			for indiction := int64(1); indiction <= 15; indiction++ {
				checkIndictionDays(t, kind, indiction, from, to)
				set, _ := impl.IndictionDays(kind, indiction, from, to)
				count += countOf(t, set)
				all, _ = impl.UniteSets(all, set)
			}
			if !slices.Equal(all, []impl.Span{{From: from, To: to}}) || count != to-from+1 {
				t.Errorf("the indictions of the kind %d from %d to %d are %d days of %v", kind, from, to, count, all)
			}
		}
	}
}

// TestLimitsOfIndictionDays has ranges as long as they may be and one day longer, ranges that end before
// they begin, the least and the greatest indiction and those beside them.
func TestLimitsOfIndictionDays(t *testing.T) {
	for _, c := range []struct{ kind, indiction, from, to, code int64 }{
		{greek, 1, 0, 40000, impl.ErrNone}, {greek, 1, 0, 40001, impl.ErrRange}, {bede, 1, lastDay - 40000, lastDay, impl.ErrNone}, {bede, 1, lastDay - 40001, lastDay, impl.ErrRange},
		{roman, 1, 433370, 473370, impl.ErrNone}, {roman, 1, 433370, 473371, impl.ErrRange}, {greek, 1, 0, lastDay, impl.ErrRange}, {greek, 1, 1, 0, impl.ErrRange},
		{greek, 1, lastDay, lastDay - 1, impl.ErrRange}, {greek, 1, lastDay, 0, impl.ErrRange}, {greek, 1, 0, 0, impl.ErrNone}, {greek, 1, lastDay, lastDay, impl.ErrNone},
		{greek, 1, -1, 0, impl.ErrRange}, {greek, 1, -1, -1, impl.ErrRange}, {greek, 1, lastDay, lastDay + 1, impl.ErrRange}, {greek, 1, lastDay + 1, lastDay + 1, impl.ErrRange},
		{greek, 0, 0, 40000, impl.ErrRange}, {greek, 15, 0, 40000, impl.ErrNone}, {greek, 16, 0, 40000, impl.ErrRange}, {greek, -1, 0, 40000, impl.ErrRange},
		{roman, 0, 0, 40000, impl.ErrRange}, {roman, 15, 0, 40000, impl.ErrNone}, {roman, 16, 0, 40000, impl.ErrRange}, {-1, 1, 0, 40000, impl.ErrRange}, {3, 1, 0, 40000, impl.ErrRange},
		{-1, 0, 0, 40000, impl.ErrRange}, {3, 16, 1, 0, impl.ErrRange}, {3, 1, -1, lastDay + 1, impl.ErrRange}, {bede, 15, math.MinInt64, math.MaxInt64, impl.ErrRange},
		{bede, 15, math.MaxInt64, math.MinInt64, impl.ErrRange}, {bede, 15, 0, math.MinInt64, impl.ErrRange}, {bede, 15, lastDay, math.MinInt64 + lastDay, impl.ErrRange},
	} {
		set, code := impl.IndictionDays(c.kind, c.indiction, c.from, c.to)
		if code != c.code || code != impl.ErrNone && len(set) != 0 {
			t.Errorf("IndictionDays(%d, %d, %d, %d) = %v, %d; want code %d", c.kind, c.indiction, c.from, c.to, set, code, c.code)
		}
		checkIndictionDays(t, c.kind, c.indiction, c.from, c.to)
	}
}

func TestRandomIndictionDays(t *testing.T) {
	random := rand.New(rand.NewSource(8))
	for range 2000 {
		from := random.Int63n(lastDay + 1)
		checkIndictionDays(t, random.Int63n(3), 1+random.Int63n(15), from, min(from+random.Int63n(1+random.Int63n(41000)), lastDay))
	}
}

// TestIndictionsOfExtremeNumbers puts each extreme in each place, and two of them in any two.
func TestIndictionsOfExtremeNumbers(t *testing.T) {
	for _, one := range append([]int64{-1, 0, 1, 3, 16, lastDay, lastDay + 1}, extremes...) {
		for i := range 4 {
			args := [4]int64{bede, 3, 433370, 433380}
			args[i] = one
			checkIndictionDays(t, args[0], args[1], args[2], args[3])
			for _, two := range extremes {
				for j := range 4 {
					pair := args
					pair[j] = two
					checkIndictionDays(t, pair[0], pair[1], pair[2], pair[3])
				}
			}
		}
		for _, two := range append([]int64{-1, 0, 2, 3, lastDay, lastDay + 1}, extremes...) {
			checkIndictionOn(t, one, two)
			checkIndictionOn(t, two, one)
		}
	}
}

// TestNumbersOfMarks has all marks, and marks with one, two or three numbers beside the range of theirs.
func TestNumbersOfMarks(t *testing.T) {
	for indiction := int64(-3); indiction <= 18; indiction++ {
		for epact := int64(-4); epact <= 32; epact++ {
			for concurrent := int64(-3); concurrent <= 10; concurrent++ {
				checkIsMark(t, impl.YearMark{Indiction: indiction, Epact: epact, Concurrent: concurrent})
			}
		}
	}
	for _, c := range []struct {
		m    impl.YearMark
		want bool
	}{
		{impl.YearMark{}, true}, {impl.YearMark{Epact: -1}, true}, {impl.YearMark{Indiction: 15, Epact: 29, Concurrent: 7}, true}, {impl.YearMark{Indiction: 1, Epact: 0, Concurrent: 1}, true},
		{impl.YearMark{Indiction: 16}, false}, {impl.YearMark{Indiction: -1}, false}, {impl.YearMark{Epact: 30}, false}, {impl.YearMark{Epact: -2}, false},
		{impl.YearMark{Concurrent: 8}, false}, {impl.YearMark{Concurrent: -1}, false}, {impl.YearMark{Indiction: -1, Epact: -1, Concurrent: -1}, false},
	} {
		if got := impl.IsYearMark(c.m); got != c.want {
			t.Errorf("IsYearMark(%v) = %v", c.m, got)
		}
	}
	for _, n := range extremes {
		for _, m := range marksWith(n) {
			checkIsMark(t, m)
		}
	}
}

func checkIsMark(t *testing.T, m impl.YearMark) {
	t.Helper()
	if got := impl.IsYearMark(m); got != isMark(m) {
		t.Errorf("IsYearMark(%v) = %v", m, got)
	}
}

// marksWith lists marks of which one number, two, or all three are n.
func marksWith(n int64) []impl.YearMark {
	var list []impl.YearMark
	for which := 1; which < 8; which++ {
		m := impl.YearMark{Indiction: 3, Epact: 18, Concurrent: 3}
		if which&1 != 0 {
			m.Indiction = n
		}
		if which&2 != 0 {
			m.Epact = n
		}
		if which&4 != 0 {
			m.Concurrent = n
		}
		list = append(list, m)
	}
	return list
}

// TestYearsWithAllMarks asks for each mark, whatever it tells, in ranges of the greatest length at both
// ends of the years.
func TestYearsWithAllMarks(t *testing.T) {
	eachMark(func(m impl.YearMark) {
		checkYearsMarked(t, m, 1, 601)
		checkYearsMarked(t, m, 1400, 2000)
	})
}

// TestEachYearHasOneMark goes over all marks that tell three numbers, and those that tell just one, and
// finds each year once for each of these ways.
func TestEachYearHasOneMark(t *testing.T) {
	counts := map[[3]bool][]int64{}
	eachMark(func(m impl.YearMark) {
		told := [3]bool{m.Indiction != 0, m.Epact != -1, m.Concurrent != 0}
		years, code := impl.YearsMarked(m, 1000, 1600)
		if code != impl.ErrNone || !slices.IsSorted(years) {
			t.Fatalf("YearsMarked(%v) = %v, %d", m, years, code)
		}
		counts[told] = append(counts[told], years...)
	})
	if len(counts) != 8 {
		t.Errorf("%d ways to tell a mark", len(counts))
	}
	for told, years := range counts {
		slices.Sort(years)
		if len(years) != 601 || years[0] != 1000 || years[600] != 1600 || len(slices.Compact(years)) != 601 {
			t.Errorf("told %v: %d years", told, len(years))
		}
	}
}

// TestKnownMarkedYears has marks that tell nothing, one number, two and three, and ranges that begin and
// end on or beside a year that is found. 1215 and 1500 have the same mark.
func TestKnownMarkedYears(t *testing.T) {
	full := impl.YearMark{Indiction: 3, Epact: 18, Concurrent: 3}
	for _, c := range []struct {
		m        impl.YearMark
		from, to int64
		want     []int64
	}{
		{impl.YearMark{Epact: -1}, 1215, 1218, []int64{1215, 1216, 1217, 1218}}, {impl.YearMark{Epact: -1}, 1, 2, []int64{1, 2}}, {impl.YearMark{Epact: -1}, 1999, 2000, []int64{1999, 2000}},
		{impl.YearMark{Epact: -1}, 1, 1, []int64{1}}, {impl.YearMark{Epact: -1}, 2000, 2000, []int64{2000}},
		{impl.YearMark{Indiction: 3, Epact: -1}, 1200, 1250, []int64{1200, 1215, 1230, 1245}}, {impl.YearMark{Indiction: 3, Epact: -1}, 1201, 1214, nil},
		{impl.YearMark{Indiction: 1, Epact: -1}, 300, 330, []int64{313, 328}}, {impl.YearMark{Indiction: 15, Epact: -1}, 300, 330, []int64{312, 327}},
		{impl.YearMark{}, 1200, 1260, []int64{1216, 1235, 1254}}, {impl.YearMark{Epact: 18}, 1200, 1260, []int64{1215, 1234, 1253}}, {impl.YearMark{Epact: 29}, 1000, 1600, nil},
		{impl.YearMark{Epact: 28}, 1, 30, []int64{8, 27}}, {impl.YearMark{Epact: -1, Concurrent: 3}, 1204, 1232, []int64{1209, 1215, 1220, 1226}},
		{impl.YearMark{Epact: -1, Concurrent: 1}, 1204, 1232, []int64{1213, 1219, 1224, 1230}}, {impl.YearMark{Epact: -1, Concurrent: 7}, 1204, 1232, []int64{1207, 1212, 1218, 1229}},
		{impl.YearMark{Indiction: 3, Epact: 18}, 1000, 1600, []int64{1215, 1500}}, {impl.YearMark{Indiction: 3, Epact: -1, Concurrent: 3}, 1200, 1300, []int64{1215}},
		{impl.YearMark{Indiction: 4, Concurrent: 5}, 1000, 1300, []int64{1216}}, {impl.YearMark{Epact: 18, Concurrent: 3}, 1200, 1320, []int64{1215, 1310}},
		{full, 1000, 1600, []int64{1215, 1500}}, {full, 1215, 1500, []int64{1215, 1500}}, {full, 1215, 1499, []int64{1215}}, {full, 1216, 1500, []int64{1500}}, {full, 1216, 1499, nil},
		{full, 1215, 1215, []int64{1215}}, {full, 1214, 1214, nil}, {impl.YearMark{Indiction: 15, Epact: 29, Concurrent: 7}, 1, 601, nil},
		{impl.YearMark{Indiction: 4, Epact: 11, Concurrent: 5}, 1, 200, []int64{1}}, {impl.YearMark{Indiction: 8, Epact: 25, Concurrent: 5}, 1800, 2000, []int64{2000}},
	} {
		if years, code := impl.YearsMarked(c.m, c.from, c.to); !slices.Equal(years, c.want) || code != impl.ErrNone {
			t.Errorf("YearsMarked(%v, %d, %d) = %v, %d; want %v", c.m, c.from, c.to, years, code, c.want)
		}
	}
}

// TestLimitsOfMarkedYears has ranges as long as they may be and one year longer, and what is no mark, which
// is told before all that is wrong with the years.
func TestLimitsOfMarkedYears(t *testing.T) {
	good, bad := impl.YearMark{Indiction: 3, Epact: -1}, impl.YearMark{Indiction: 16}
	for _, c := range []struct {
		m              impl.YearMark
		from, to, code int64
	}{
		{good, 1, 601, impl.ErrNone}, {good, 1, 602, impl.ErrRange}, {good, 1400, 2000, impl.ErrNone}, {good, 1399, 2000, impl.ErrRange}, {good, 1, 2000, impl.ErrRange},
		{good, 1, 1, impl.ErrNone}, {good, 2000, 2000, impl.ErrNone}, {good, 2, 1, impl.ErrRange}, {good, 2000, 1999, impl.ErrRange}, {good, 2000, 1, impl.ErrRange},
		{good, 0, 1, impl.ErrRange}, {good, 0, 0, impl.ErrRange}, {good, 2000, 2001, impl.ErrRange}, {good, 2001, 2001, impl.ErrRange}, {good, -1, 2, impl.ErrRange},
		{good, math.MinInt64, math.MaxInt64, impl.ErrRange}, {good, math.MaxInt64, math.MinInt64, impl.ErrRange}, {good, 1, math.MinInt64, impl.ErrRange}, {good, 1, math.MaxInt64, impl.ErrRange},
		{bad, 1, 601, impl.ErrInvalid}, {bad, 1, 602, impl.ErrInvalid}, {bad, 2, 1, impl.ErrInvalid}, {bad, 0, 1, impl.ErrInvalid}, {bad, 2000, 2001, impl.ErrInvalid},
		{bad, math.MinInt64, math.MaxInt64, impl.ErrInvalid}, {impl.YearMark{Epact: -2}, 2, 1, impl.ErrInvalid}, {impl.YearMark{Concurrent: 8}, 0, 2001, impl.ErrInvalid},
		{impl.YearMark{Epact: 30}, 1, 1, impl.ErrInvalid}, {impl.YearMark{Indiction: -1}, 1, 1, impl.ErrInvalid}, {impl.YearMark{Concurrent: -1}, 1, 1, impl.ErrInvalid},
	} {
		years, code := impl.YearsMarked(c.m, c.from, c.to)
		if code != c.code || code != impl.ErrNone && len(years) != 0 {
			t.Errorf("YearsMarked(%v, %d, %d) = %v, %d; want code %d", c.m, c.from, c.to, years, code, c.code)
		}
		checkYearsMarked(t, c.m, c.from, c.to)
	}
}

// TestMarkedYearsOfExtremeNumbers puts extremes in the places of the numbers of a mark and of the years.
func TestMarkedYearsOfExtremeNumbers(t *testing.T) {
	for _, one := range append([]int64{-2, -1, 0, 1, 16, 30, 2000, 2001}, extremes...) {
		for _, m := range marksWith(one) {
			checkYearsMarked(t, m, 1000, 1600)
			checkYearsMarked(t, m, one, 1600)
			checkYearsMarked(t, m, 1600, one)
		}
		for _, two := range append([]int64{0, 1, 1500, 2000, 2001}, extremes...) {
			checkYearsMarked(t, impl.YearMark{Indiction: 3, Epact: 18, Concurrent: 3}, one, two)
			checkYearsMarked(t, impl.YearMark{Epact: -1}, two, one)
		}
	}
}

func TestRandomMarkedYears(t *testing.T) {
	random := rand.New(rand.NewSource(88))
	for range 20000 {
		from := 1 + random.Int63n(2000)
		m := impl.YearMark{Indiction: random.Int63n(16), Epact: knownEpacts[random.Intn(19)], Concurrent: random.Int63n(8)}
		if random.Intn(2) == 0 {
			m.Epact = -1
		}
		checkYearsMarked(t, m, from, from+random.Int63n(1+random.Int63n(640)))
	}
}

// TestIndictionsGiveNewMemory writes over lists, and what lies behind them, and asks again.
func TestIndictionsGiveNewMemory(t *testing.T) {
	from, to := oldNumber(1215, 1, 1), oldNumber(1250, 1, 1)
	set, _ := impl.IndictionDays(greek, 3, from, to)
	otherSet, _ := impl.IndictionDays(greek, 3, from, to)
	wantSet := slices.Clone(set)
	spoil(set)
	for _, m := range []impl.YearMark{{Indiction: 3, Epact: -1}, {Epact: -1}, {}, {Indiction: 3, Epact: 18, Concurrent: 3}} {
		years, _ := impl.YearsMarked(m, 1200, 1260)
		others, _ := impl.YearsMarked(m, 1200, 1260)
		want := slices.Clone(years)
		for i := range years[:cap(years)] {
			years[:cap(years)][i] = -7
		}
		if len(want) == 0 || !slices.Equal(others, want) {
			t.Errorf("%v has become %v", want, others)
		}
		checkYearsMarked(t, m, 1200, 1260)
	}
	if len(wantSet) != 3 || !slices.Equal(otherSet, wantSet) {
		t.Errorf("%v has become %v", wantSet, otherSet)
	}
	checkIndictionDays(t, greek, 3, from, to)
}

// TestIndictionsAtOnce asks from several goroutines at once, as no call may depend on another one.
func TestIndictionsAtOnce(t *testing.T) {
	var group sync.WaitGroup
	for first := range int64(8) {
		group.Go(func() {
			for year := 1 + first; year <= 1400; year += 40 {
				m := cycleCalendar().marks[year]
				checkYearsMarked(t, m, year, year+600)
				checkIndictionDays(t, year%3, m.Indiction, 365*year, 365*year+20000)
			}
		})
	}
	group.Wait()
}
