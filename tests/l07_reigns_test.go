package tests

import (
	"fmt"
	"math"
	"math/rand"
	"regexp"
	"slices"
	"strings"
	"testing"

	"loop.example/g01034/impl"
)

const lastDay = impl.MaxDay

var smallName = regexp.MustCompile(`\A[a-z]{1,12}\z`)

// reign tells a reign of a king whose name does not matter.
func reign(from int64, to int64) impl.Reign { return impl.Reign{King: "carl", From: from, To: to} }

// isReign tells whether r is a reign.
func isReign(r impl.Reign) bool {
	return smallName.MatchString(r.King) && isDayNumber(r.From) && isDayNumber(r.To) && r.From <= r.To
}

// areReigns tells whether list is reigns.
func areReigns(list []impl.Reign) bool {
	byFrom := func(r impl.Reign, s impl.Reign) int { return int(r.From - s.From) }
	return len(list) <= 30 && !slices.ContainsFunc(list, func(r impl.Reign) bool { return !isReign(r) }) && slices.IsSortedFunc(list, byFrom)
}

// yearBegins tells whether a year begins on the day n in a reign with the first day from, be n in it or
// not.
func yearBegins(from int64, n int64) bool {
	first, d := walked().oldDates[from], walked().oldDates[n]
	if first.Month == 2 && first.Day == 29 && !leapOld(d.Year) {
		return d.Month == 3 && d.Day == 1
	}
	return d.Month == first.Month && d.Day == first.Day
}

// regnal is reigns with the year of each of their days, found by going over these days. It is the
// reference for all tests of reigns.
type regnal struct {
	list  []impl.Reign
	years [][]int64
}

func regnalOf(list ...impl.Reign) *regnal {
	g := &regnal{list: list}
	for _, r := range list {
		var years []int64
		k := int64(0)
		for n := r.From; n <= r.To; n++ {
			if yearBegins(r.From, n) {
				k++
			}
			years = append(years, k)
		}
		g.years = append(g.years, years)
	}
	return g
}

// year tells the year of the day n in the reign i, or 0 if it is not in it.
func (g *regnal) year(i int, n int64) int64 {
	if n < g.list[i].From || n > g.list[i].To {
		return 0
	}
	return g.years[i][n-g.list[i].From]
}

// count tells the number of years of the reign i.
func (g *regnal) count(i int) int64 { return g.years[i][len(g.years[i])-1] }

// span tells the days of the year k of the reign i, and whether there are any.
func (g *regnal) span(i int, k int64) (impl.Span, bool) {
	first := slices.Index(g.years[i], k)
	if first < 0 {
		return impl.Span{}, false
	}
	span := impl.Span{From: g.list[i].From + int64(first)}
	for span.To = span.From; g.year(i, span.To+1) == k; span.To++ {
	}
	return span, true
}

// on tells the indices of the reigns that a day is in.
func (g *regnal) on(n int64) []int64 {
	var on []int64
	for i := range g.list {
		if g.year(i, n) > 0 {
			on = append(on, int64(i))
		}
	}
	return on
}

// text tells the text of a day.
func (g *regnal) text(n int64) string {
	var texts []string
	for _, i := range g.on(n) {
		texts = append(texts, fmt.Sprintf("%d %s", g.year(int(i), n), g.list[i].King))
	}
	if len(texts) == 0 {
		return "-"
	}
	return strings.Join(texts, ",")
}

// daysIf tells the set of all days from from to to that hold.
func daysIf(from int64, to int64, holds func(n int64) bool) []impl.Span {
	in := make([]bool, to-from+1)
	for k := range in {
		in[k] = holds(from + int64(k))
	}
	return spansOf(from, in)
}

// kingYear tells what KingYearSet has to return.
func (g *regnal) kingYear(king string, k int64) ([]impl.Span, int64) {
	if k < 1 {
		return nil, impl.ErrRange
	}
	var years []impl.Span
	for i, r := range g.list {
		if span, exists := g.span(i, k); exists && r.King == king {
			years = append(years, span)
		}
	}
	if len(years) == 0 {
		return nil, impl.ErrNotFound
	}
	return joinedDays(years), impl.ErrNone
}

// void tells what VoidDays has to return.
func (g *regnal) void(from int64, to int64) ([]impl.Span, int64) {
	if !isDayNumber(from) || !isDayNumber(to) || from > to {
		return nil, impl.ErrRange
	}
	return daysIf(from, to, func(n int64) bool { return len(g.on(n)) == 0 }), impl.ErrNone
}

// disputed tells what DisputedDays has to return.
func (g *regnal) disputed() []impl.Span {
	if len(g.list) == 0 {
		return nil
	}
	from, to := int64(lastDay), int64(0)
	for _, r := range g.list {
		from, to = min(from, r.From), max(to, r.To)
	}
	return daysIf(from, to, func(n int64) bool { return len(g.on(n)) > 1 })
}

func (g *regnal) checkKingYear(t *testing.T, king string, k int64) {
	t.Helper()
	want, wantCode := g.kingYear(king, k)
	if set, code := impl.KingYearSet(g.list, king, k); !slices.Equal(set, want) || code != wantCode || !impl.IsSet(set) {
		t.Errorf("KingYearSet(%v, %q, %d) = %v, %d; want %v, %d", g.list, king, k, set, code, want, wantCode)
	}
}

func (g *regnal) checkVoid(t *testing.T, from int64, to int64) {
	t.Helper()
	want, wantCode := g.void(from, to)
	if set, code := impl.VoidDays(g.list, from, to); !slices.Equal(set, want) || code != wantCode || !impl.IsSet(set) {
		t.Errorf("VoidDays(%v, %d, %d) = %v, %d; want %v, %d", g.list, from, to, set, code, want, wantCode)
	}
}

func (g *regnal) checkDisputed(t *testing.T) {
	t.Helper()
	want := g.disputed()
	if set, code := impl.DisputedDays(g.list); !slices.Equal(set, want) || code != impl.ErrNone || !impl.IsSet(set) {
		t.Errorf("DisputedDays(%v) = %v, %d; want %v", g.list, set, code, want)
	}
}

// checkOn compares ReignsOn and RegnalText for a number.
func (g *regnal) checkOn(t *testing.T, n int64) {
	t.Helper()
	want, wantText, wantCode := g.on(n), g.text(n), int64(impl.ErrNone)
	if !isDayNumber(n) {
		want, wantText, wantCode = nil, "", impl.ErrRange
	}
	if list, code := impl.ReignsOn(g.list, n); !slices.Equal(list, want) || code != wantCode {
		t.Errorf("ReignsOn(%v, %d) = %v, %d; want %v, %d", g.list, n, list, code, want, wantCode)
	}
	if text, code := impl.RegnalText(g.list, n); text != wantText || code != wantCode {
		t.Errorf("RegnalText(%v, %d) = %q, %d; want %q, %d", g.list, n, text, code, wantText, wantCode)
	}
}

// checkYear compares RegnalYear of the reign i for a number.
func (g *regnal) checkYear(t *testing.T, i int, n int64) {
	t.Helper()
	want, wantCode := g.year(i, n), int64(impl.ErrNone)
	switch {
	case !isDayNumber(n):
		wantCode = impl.ErrRange
	case want == 0:
		wantCode = impl.ErrNotFound
	}
	if k, code := impl.RegnalYear(g.list[i], n); k != want || code != wantCode {
		t.Errorf("RegnalYear(%v, %d) = %d, %d; want %d, %d", g.list[i], n, k, code, want, wantCode)
	}
}

// checkSpan compares RegnalSpan of the reign i for the number of a year.
func (g *regnal) checkSpan(t *testing.T, i int, k int64) {
	t.Helper()
	wantCode := int64(impl.ErrNone)
	want, exists := g.span(i, k)
	switch {
	case k < 1:
		want, wantCode = impl.Span{}, impl.ErrRange
	case !exists:
		wantCode = impl.ErrNotFound
	}
	if s, code := impl.RegnalSpan(g.list[i], k); s != want || code != wantCode {
		t.Errorf("RegnalSpan(%v, %d) = %v, %d; want %v, %d", g.list[i], k, s, code, want, wantCode)
	}
}

// checkReign compares all years of one reign, those before the first and behind the last one, the days at
// their ends and the days beside these.
func checkReign(t *testing.T, r impl.Reign) {
	t.Helper()
	g := regnalOf(r)
	last := g.count(0)
	if count, code := impl.CountYears(r); count != last || code != impl.ErrNone {
		t.Errorf("CountYears(%v) = %d, %d; want %d", r, count, code, last)
	}
	for k := int64(-1); k <= last+2; k++ {
		g.checkSpan(t, 0, k)
		span, _ := g.span(0, k)
		for _, n := range []int64{span.From - 1, span.From, span.From + 1, span.To - 1, span.To, span.To + 1} {
			g.checkYear(t, 0, n)
		}
	}
}

// checkGapless is promise 7 for one reign, with nothing but what the program returns: the first year
// begins with the reign, each one behind the one before, and the last one ends with the reign; and each
// day is in the year that it is told to be in.
func checkGapless(t *testing.T, r impl.Reign) {
	t.Helper()
	count, code := impl.CountYears(r)
	if code != impl.ErrNone || count < 1 {
		t.Fatalf("CountYears(%v) = %d, %d", r, count, code)
	}
	next := r.From
	for k := int64(1); k <= count; k++ {
		span, code := impl.RegnalSpan(r, k)
		if code != impl.ErrNone || span.From != next || span.To < span.From {
			t.Fatalf("RegnalSpan(%v, %d) = %v, %d, behind the day %d", r, k, span, code, next-1)
		}
		for n := span.From; n <= span.To; n++ {
			if year, code := impl.RegnalYear(r, n); year != k || code != impl.ErrNone {
				t.Fatalf("RegnalYear(%v, %d) = %d, %d; the year %d is %v", r, n, year, code, k, span)
			}
		}
		next = span.To + 1
	}
	if next != r.To+1 {
		t.Errorf("the years of %v end on the day %d", r, next-1)
	}
	if span, code := impl.RegnalSpan(r, count+1); span != (impl.Span{}) || code != impl.ErrNotFound {
		t.Errorf("RegnalSpan(%v, %d) = %v, %d", r, count+1, span, code)
	}
}

// lengths are numbers of days around one, several and many years.
var lengths = []int64{1, 2, 3, 28, 59, 60, 364, 365, 366, 367, 730, 731, 732, 1095, 1096, 1097, 1460, 1461, 1462, 1463, 2922, 4000}

func TestLimitOfReigns(t *testing.T) {
	if impl.MaxReigns != 30 {
		t.Errorf("MaxReigns = %d", impl.MaxReigns)
	}
}

// TestYearsOfReignsHaveNoGaps is promise 7: for reigns that begin on each of the days of four years and a
// half, at three times, and last for some days or for some years, and for the longest ones.
func TestYearsOfReignsHaveNoGaps(t *testing.T) {
	for _, first := range []int64{0, oldNumber(1214, 9, 1), lastDay - 1700} {
		for from := first; from <= first+1650; from++ {
			checkGapless(t, reign(from, min(from+lengths[from%int64(len(lengths))]-1, lastDay)))
			checkGapless(t, reign(from, min(from+7*(from-first)%5000, lastDay)))
		}
	}
	for _, from := range []int64{0, 1, 58, 59, 60, 364, 365, oldNumber(4, 2, 29), oldNumber(3, 2, 28), oldNumber(3, 3, 1), oldNumber(1000, 2, 29)} {
		checkGapless(t, reign(from, lastDay))
	}
}

// TestReignsFromEachDay has reigns from each day of five years, at both ends of the days and between, of
// all the lengths.
func TestReignsFromEachDay(t *testing.T) {
	for _, first := range []int64{0, oldNumber(1214, 1, 1), lastDay - 1826} {
		for from := first; from <= first+1826; from++ {
			for i, length := range lengths {
				if length > 800 && (int64(i)+from)%6 != 0 {
					continue // long ones only now and then
				}
				checkReign(t, reign(from, min(from+length-1, lastDay)))
			}
		}
	}
}

// TestReignsOverAllDays has the reign from the first to the last day, whose years are the old ones, and
// those from and to a day beside it.
func TestReignsOverAllDays(t *testing.T) {
	r := reign(0, lastDay)
	for n, d := range walked().oldDates {
		if k, code := impl.RegnalYear(r, int64(n)); k != d.Year || code != impl.ErrNone {
			t.Errorf("RegnalYear on %v = %d, %d", d, k, code)
		}
	}
	for k := int64(1); k <= 2000; k++ {
		want := impl.Span{From: oldNumber(k, 1, 1), To: oldNumber(k, 12, 31)}
		if s, code := impl.RegnalSpan(r, k); s != want || code != impl.ErrNone {
			t.Errorf("RegnalSpan in the year %d = %v, %d; want %v", k, s, code, want)
		}
	}
	for _, c := range []struct{ from, to, years int64 }{
		{0, lastDay, 2000}, {1, lastDay, 2000}, {0, lastDay - 1, 2000}, {1, lastDay - 1, 2000}, {0, lastDay - 365, 2000}, {0, lastDay - 366, 1999},
		{364, lastDay, 2000}, {365, lastDay, 1999}, {lastDay, lastDay, 1}, {0, 0, 1}, {oldNumber(4, 2, 29), lastDay, 1997}, {oldNumber(4, 3, 1), lastDay, 1997},
	} {
		long := reign(c.from, c.to)
		if count, code := impl.CountYears(long); count != c.years || code != impl.ErrNone {
			t.Errorf("CountYears(%v) = %d, %d; want %d", long, count, code, c.years)
		}
		for _, k := range []int64{c.years + 1, c.years + 2, 2001, 2002} {
			if s, code := impl.RegnalSpan(long, k); s != (impl.Span{}) || code != impl.ErrNotFound {
				t.Errorf("RegnalSpan(%v, %d) = %v, %d", long, k, s, code)
			}
		}
		if s, code := impl.RegnalSpan(long, c.years); s.To != c.to || code != impl.ErrNone {
			t.Errorf("RegnalSpan(%v, %d) = %v, %d", long, c.years, s, code)
		}
	}
}

// TestKnownRegnalYears has the dates on which the years of reigns from and around February 29 begin and
// end, the last day of each reign being the end of the last one.
func TestKnownRegnalYears(t *testing.T) {
	type year struct{ from, to impl.Date }
	date := func(y int64, m int64, d int64) impl.Date { return impl.Date{Year: y, Month: m, Day: d} }
	for _, years := range [][]year{
		{{date(1216, 2, 29), date(1217, 2, 28)}, {date(1217, 3, 1), date(1218, 2, 28)}, {date(1218, 3, 1), date(1219, 2, 28)},
			{date(1219, 3, 1), date(1220, 2, 28)}, {date(1220, 2, 29), date(1221, 2, 28)}, {date(1221, 3, 1), date(1221, 3, 1)}},
		{{date(1216, 2, 29), date(1217, 2, 28)}}, {{date(1216, 2, 29), date(1217, 2, 28)}, {date(1217, 3, 1), date(1217, 3, 1)}},
		{{date(1216, 2, 29), date(1216, 2, 29)}}, {{date(1216, 2, 29), date(1217, 2, 27)}},
		{{date(1219, 3, 1), date(1220, 2, 29)}, {date(1220, 3, 1), date(1221, 2, 28)}, {date(1221, 3, 1), date(1221, 12, 31)}},
		{{date(1219, 3, 1), date(1220, 2, 29)}}, {{date(1219, 3, 1), date(1220, 2, 28)}},
		{{date(1216, 3, 1), date(1217, 2, 28)}, {date(1217, 3, 1), date(1218, 2, 28)}, {date(1218, 3, 1), date(1218, 3, 1)}},
		{{date(1216, 2, 28), date(1217, 2, 27)}, {date(1217, 2, 28), date(1218, 2, 27)}, {date(1218, 2, 28), date(1219, 2, 27)},
			{date(1219, 2, 28), date(1220, 2, 27)}, {date(1220, 2, 28), date(1221, 2, 27)}, {date(1221, 2, 28), date(1221, 2, 28)}},
		{{date(1219, 2, 28), date(1220, 2, 27)}, {date(1220, 2, 28), date(1220, 2, 29)}},
		{{date(1199, 5, 27), date(1200, 5, 26)}, {date(1200, 5, 27), date(1201, 5, 26)}, {date(1201, 5, 27), date(1201, 5, 27)}},
		{{date(1215, 1, 1), date(1215, 12, 31)}, {date(1216, 1, 1), date(1216, 12, 31)}, {date(1217, 1, 1), date(1217, 1, 1)}},
		{{date(1214, 12, 31), date(1215, 12, 30)}, {date(1215, 12, 31), date(1216, 12, 30)}, {date(1216, 12, 31), date(1216, 12, 31)}},
		{{date(1300, 2, 28), date(1301, 2, 27)}, {date(1301, 2, 28), date(1302, 1, 1)}}, // 1300 is an old leap year, and no new one
		{{date(1300, 2, 29), date(1301, 2, 28)}, {date(1301, 3, 1), date(1302, 1, 1)}},
		{{date(1996, 2, 29), date(1997, 2, 28)}, {date(1997, 3, 1), date(1998, 2, 28)}, {date(1998, 3, 1), date(1999, 2, 28)},
			{date(1999, 3, 1), date(2000, 2, 28)}, {date(2000, 2, 29), date(2000, 12, 31)}},
		{{date(1999, 12, 31), date(2000, 12, 30)}, {date(2000, 12, 31), date(2000, 12, 31)}}, {{date(2000, 1, 1), date(2000, 12, 31)}},
		{{date(1, 1, 1), date(1, 12, 31)}, {date(2, 1, 1), date(2, 1, 1)}}, {{date(1, 1, 1), date(1, 12, 30)}}, {{date(1, 12, 31), date(2, 12, 30)}},
	} {
		r := reign(dateNumber(years[0].from), dateNumber(years[len(years)-1].to))
		if count, code := impl.CountYears(r); count != int64(len(years)) || code != impl.ErrNone {
			t.Errorf("CountYears(%v) = %d, %d; want %d", years, count, code, len(years))
		}
		for i, y := range years {
			k, want := int64(i)+1, impl.Span{From: dateNumber(y.from), To: dateNumber(y.to)}
			if s, code := impl.RegnalSpan(r, k); s != want || code != impl.ErrNone {
				t.Errorf("RegnalSpan(%v, %d) = %v, %d; want %v", years, k, s, code, want)
			}
			for _, n := range []int64{want.From, (want.From + want.To) / 2, want.To} {
				if got, code := impl.RegnalYear(r, n); got != k || code != impl.ErrNone {
					t.Errorf("RegnalYear(%v) on %v = %d, %d; want %d", years, walked().oldDates[n], got, code, k)
				}
			}
		}
		checkReign(t, r)
	}
}

// TestKnownLengthsOfReigns has reigns of one day, and of a year less a day, a year, and a year and a day,
// with and without a February 29 in it.
func TestKnownLengthsOfReigns(t *testing.T) {
	for _, c := range []struct{ from, days, years, lastDays int64 }{
		{oldNumber(1214, 7, 1), 1, 1, 1}, {oldNumber(1214, 7, 1), 364, 1, 364}, {oldNumber(1214, 7, 1), 365, 1, 365}, {oldNumber(1214, 7, 1), 366, 2, 1},
		{oldNumber(1215, 7, 1), 365, 1, 365}, {oldNumber(1215, 7, 1), 366, 1, 366}, {oldNumber(1215, 7, 1), 367, 2, 1},
		{0, 1, 1, 1}, {0, 364, 1, 364}, {0, 365, 1, 365}, {0, 366, 2, 1}, {lastDay, 1, 1, 1}, {lastDay - 365, 366, 1, 366}, {lastDay - 366, 367, 2, 1},
		{lastDay - 364, 365, 1, 365}, {0, lastDay + 1, 2000, 366}, {1, lastDay, 2000, 365},
	} {
		r := reign(c.from, c.from+c.days-1)
		if count, code := impl.CountYears(r); count != c.years || code != impl.ErrNone {
			t.Errorf("CountYears(%v) = %d, %d; want %d", r, count, code, c.years)
		}
		want := impl.Span{From: r.To - c.lastDays + 1, To: r.To}
		if s, code := impl.RegnalSpan(r, c.years); s != want || code != impl.ErrNone {
			t.Errorf("RegnalSpan(%v, %d) = %v, %d; want %v", r, c.years, s, code, want)
		}
	}
}

// TestNamesOfKings has names of all lengths around the limits, and each byte alone and in a name.
func TestNamesOfKings(t *testing.T) {
	names := []string{"", "a", "z", "abcdefghijkl", "zzzzzzzzzzzz", "abcdefghijklm", "zzzzzzzzzzzzz", "louis the pious", strings.Repeat("a", 300),
		"édouard", "knut\u00e9", "\u0430dam", "ﬁlip", " adam", "adam ", "ad am", "adam,", "Adam", "adaM", "adam2", "adam\x00", "adam\n", "adam-i", "\xff", "a\xffb"}
	for b := range 256 {
		names = append(names, string([]byte{byte(b)}), string([]byte{byte(b), 'a'}), string([]byte{'a', byte(b)}), string([]byte{'a', byte(b), 'z'}), "abcdefghijk"+string([]byte{byte(b)}))
	}
	for _, name := range names {
		r := impl.Reign{King: name, From: 1000, To: 2000}
		valid := smallName.MatchString(name)
		if impl.AreReigns([]impl.Reign{r}) != valid {
			t.Errorf("AreReigns of the name %q: %v", name, !valid)
		}
		code := int64(impl.ErrNone)
		if !valid {
			code = impl.ErrInvalid
		}
		checkCodes(t, r, code)
	}
}

// checkCodes asks for the day and the year of a reign that are there if it is one.
func checkCodes(t *testing.T, r impl.Reign, want int64) {
	t.Helper()
	k, code := impl.RegnalYear(r, r.From)
	s, codeOfSpan := impl.RegnalSpan(r, 1)
	count, codeOfCount := impl.CountYears(r)
	if code != want || codeOfSpan != want || codeOfCount != want {
		t.Errorf("%v: codes %d, %d, %d; want %d", r, code, codeOfSpan, codeOfCount, want)
	}
	if want != impl.ErrNone && (k != 0 || s != impl.Span{} || count != 0) {
		t.Errorf("%v: %d, %v and %d beside an error", r, k, s, count)
	}
}

// TestDaysOfReigns has first and last days at and around the limits, in any order, and extreme ones.
func TestDaysOfReigns(t *testing.T) {
	numbers := append([]int64{0, 1, 2, 59, 365, 433370, 433371, lastDay - 1, lastDay, lastDay + 1, lastDay + 2, lastDay + 366}, extremes...)
	for _, from := range numbers {
		for _, to := range numbers {
			r := reign(from, to)
			valid := isReign(r)
			if impl.AreReigns([]impl.Reign{r}) != valid {
				t.Errorf("AreReigns(%v): %v", r, !valid)
			}
			code := int64(impl.ErrNone)
			if !valid {
				code = impl.ErrInvalid
			}
			checkCodes(t, r, code)
		}
	}
	for _, c := range []struct {
		from, to int64
		valid    bool
	}{
		{5, 5, true}, {6, 5, false}, {5, 6, true}, {0, 0, true}, {1, 0, false}, {-1, 0, false}, {-1, -1, false}, {0, lastDay, true}, {0, lastDay + 1, false},
		{lastDay, lastDay, true}, {lastDay, lastDay - 1, false}, {lastDay, lastDay + 1, false}, {lastDay + 1, lastDay + 1, false}, {lastDay, 0, false},
	} {
		if impl.AreReigns([]impl.Reign{reign(c.from, c.to)}) != c.valid {
			t.Errorf("AreReigns from %d to %d: %v", c.from, c.to, !c.valid)
		}
	}
}

// many tells count reigns of one year or so each, from a first day on, step days apart.
func many(first int64, step int64, count int) []impl.Reign {
	var list []impl.Reign
	for i := range int64(count) {
		list = append(list, impl.Reign{King: []string{"adam", "berta", "carl"}[i%3], From: first + i*step, To: first + i*step + 400})
	}
	return list
}

// badReigns are lists that are no reigns, and would be ones but for a single thing.
func badReigns() map[string][]impl.Reign {
	with := func(i int, change func(r *impl.Reign)) []impl.Reign {
		list := many(1000, 100, 5)
		change(&list[i])
		return list
	}
	return map[string][]impl.Reign{
		"too many":             many(1000, 100, 31),
		"too many at once":     many(1000, 0, 31),
		"far too many":         many(1000, 100, 300),
		"first without a name": with(0, func(r *impl.Reign) { r.King = "" }),
		"last with a long one": with(4, func(r *impl.Reign) { r.King = "abcdefghijklm" }),
		"another byte":         with(2, func(r *impl.Reign) { r.King = "ad?m" }),
		"ends early":           with(2, func(r *impl.Reign) { r.To = r.From - 1 }),
		"begins too early":     with(0, func(r *impl.Reign) { r.From = -1 }),
		"ends too late":        with(4, func(r *impl.Reign) { r.To = lastDay + 1 }),
		"ends far too late":    with(1, func(r *impl.Reign) { r.To = math.MaxInt64 }),
		"begins by far":        with(0, func(r *impl.Reign) { r.From = math.MinInt64 }),
		"decreases by one":     with(1, func(r *impl.Reign) { r.From = 999 }),
		"decreases at the end": with(4, func(r *impl.Reign) { r.From = 1299 }),
		"one of the two":       {{King: "adam", From: 1000, To: 2000}, {King: "adam", From: 999, To: 999}},
		"no king at all":       {{}},
	}
}

// TestListsThatAreReigns has lists of all lengths around the limits, and lists with equal first days.
func TestListsThatAreReigns(t *testing.T) {
	for count := range 33 {
		for _, step := range []int64{0, 1, 100} {
			list := many(1000, step, count)
			if impl.AreReigns(list) != (count <= 30) {
				t.Errorf("AreReigns of %d reigns: %v", count, count > 30)
			}
		}
		if down := many(5000, -1, count); count > 1 && impl.AreReigns(down) {
			t.Errorf("AreReigns of %d reigns that decrease", count)
		}
	}
	for _, list := range [][]impl.Reign{
		nil, {}, {reign(0, 0)}, {reign(5, 9), reign(5, 9)}, {reign(5, 9), reign(5, 5)}, {reign(5, 5), reign(5, 9), reign(5, 7)}, {reign(5, 9), reign(6, 6)},
		{reign(0, lastDay), reign(0, lastDay), reign(lastDay, lastDay)}, {reign(5, 9), reign(10, 12), reign(12, 13)},
	} {
		if !impl.AreReigns(list) {
			t.Errorf("AreReigns(%v) = false", list)
		}
	}
	for what, list := range badReigns() {
		if areReigns(list) {
			t.Errorf("%s: the reference takes it for reigns", what)
		}
		if impl.AreReigns(list) {
			t.Errorf("%s: AreReigns(%v) = true", what, list)
		}
	}
}

// TestShortListsOfReigns has all lists of up to three reigns with days of a few numbers, some of which
// are none.
func TestShortListsOfReigns(t *testing.T) {
	for _, first := range []int64{-1, lastDay - 3} {
		for _, spans := range shortLists(first, 5) {
			var list []impl.Reign
			for _, s := range spans {
				list = append(list, reign(s.From, s.To))
			}
			if impl.AreReigns(list) != areReigns(list) {
				t.Errorf("AreReigns(%v) = %v", list, !areReigns(list))
			}
			if !areReigns(list) {
				continue
			}
			g := regnalOf(list...)
			g.checkDisputed(t)
			g.checkVoid(t, max(first, 0), min(first+5, lastDay))
			g.checkVoid(t, max(first, 0)+1, max(first, 0)+2)
			for n := first - 1; n <= first+6; n++ {
				g.checkOn(t, n)
			}
			g.checkKingYear(t, "carl", 1)
			g.checkKingYear(t, "carl", 2)
		}
	}
}

// TestErrorsOfListsInOrder asks for what is no day, no year and no king in lists that are no reigns, and
// then in those that are.
func TestErrorsOfListsInOrder(t *testing.T) {
	for what, list := range badReigns() {
		for _, n := range append([]int64{0, 1100, lastDay, lastDay + 1}, extremes...) {
			checkLists(t, what, list, n, n, impl.ErrInvalid, impl.ErrInvalid)
			checkLists(t, what, list, n, 1, impl.ErrInvalid, impl.ErrInvalid)
		}
		if set, code := impl.DisputedDays(list); len(set) != 0 || code != impl.ErrInvalid {
			t.Errorf("%s: DisputedDays = %v, %d", what, set, code)
		}
	}
	good := many(1000, 100, 5)
	for _, n := range append([]int64{lastDay + 1, lastDay + 2}, extremes...) {
		checkLists(t, "reigns", good, n, 0, impl.ErrRange, impl.ErrRange)
		checkLists(t, "reigns", good, n, 3, impl.ErrRange, impl.ErrNotFound)
		checkLists(t, "none", nil, n, -1, impl.ErrRange, impl.ErrRange)
	}
}

// checkLists asks for a day in a list, for the void days up to it and from it on, and for the year k of
// kings.
func checkLists(t *testing.T, what string, list []impl.Reign, n int64, k int64, code int64, codeOfYear int64) {
	t.Helper()
	if on, got := impl.ReignsOn(list, n); len(on) != 0 || got != code {
		t.Errorf("%s: ReignsOn(%d) = %v, %d; want code %d", what, n, on, got, code)
	}
	if text, got := impl.RegnalText(list, n); text != "" || got != code {
		t.Errorf("%s: RegnalText(%d) = %q, %d; want code %d", what, n, text, got, code)
	}
	for _, ends := range [][2]int64{{n, n}, {0, n}, {n, 0}, {n, lastDay}} {
		if set, got := impl.VoidDays(list, ends[0], ends[1]); len(set) != 0 || got != code {
			t.Errorf("%s: VoidDays(%d, %d) = %v, %d; want code %d", what, ends[0], ends[1], set, got, code)
		}
	}
	for _, king := range []string{"adam", "berta", "nobody", ""} {
		if set, got := impl.KingYearSet(list, king, k); len(set) != 0 || got != codeOfYear {
			t.Errorf("%s: KingYearSet(%q, %d) = %v, %d; want code %d", what, king, k, set, got, codeOfYear)
		}
	}
}

// TestErrorsOfReignsInOrder asks for what is no day and no year of what is no reign, and then of one.
func TestErrorsOfReignsInOrder(t *testing.T) {
	bad := []impl.Reign{{}, {King: "", From: 5, To: 9}, {King: "Adam", From: 5, To: 9}, reign(9, 5), reign(-1, 5), reign(5, lastDay+1)}
	good := reign(1000, 2000)
	for _, n := range append([]int64{-2, 0, 1, 7, 1500, lastDay, lastDay + 1}, extremes...) {
		for _, r := range bad {
			if k, code := impl.RegnalYear(r, n); k != 0 || code != impl.ErrInvalid {
				t.Errorf("RegnalYear(%v, %d) = %d, %d", r, n, k, code)
			}
			if s, code := impl.RegnalSpan(r, n); s != (impl.Span{}) || code != impl.ErrInvalid {
				t.Errorf("RegnalSpan(%v, %d) = %v, %d", r, n, s, code)
			}
		}
		regnalOf(good).checkYear(t, 0, n)
		regnalOf(good).checkSpan(t, 0, n)
	}
	for _, c := range []struct{ n, year, code int64 }{
		{999, 0, impl.ErrNotFound}, {1000, 1, impl.ErrNone}, {2000, 3, impl.ErrNone}, {2001, 0, impl.ErrNotFound}, {0, 0, impl.ErrNotFound},
		{lastDay, 0, impl.ErrNotFound}, {lastDay + 1, 0, impl.ErrRange}, {-1, 0, impl.ErrRange},
	} {
		if k, code := impl.RegnalYear(good, c.n); k != c.year || code != c.code {
			t.Errorf("RegnalYear(%v, %d) = %d, %d; want %d, %d", good, c.n, k, code, c.year, c.code)
		}
	}
	for _, c := range []struct{ k, code int64 }{
		{0, impl.ErrRange}, {-1, impl.ErrRange}, {math.MinInt64, impl.ErrRange}, {1, impl.ErrNone}, {3, impl.ErrNone}, {4, impl.ErrNotFound},
		{1999, impl.ErrNotFound}, {2000, impl.ErrNotFound}, {2001, impl.ErrNotFound}, {math.MaxInt64 - 1, impl.ErrNotFound}, {math.MaxInt64, impl.ErrNotFound},
	} {
		if _, code := impl.RegnalSpan(good, c.k); code != c.code {
			t.Errorf("RegnalSpan(%v, %d): code %d; want %d", good, c.k, code, c.code)
		}
	}
}

// TestYearsBehindAllDays has years whose beginning would be no day any more, in reigns to the last day.
func TestYearsBehindAllDays(t *testing.T) {
	for _, r := range []impl.Reign{reign(lastDay, lastDay), reign(lastDay-366, lastDay), reign(oldNumber(1996, 2, 29), lastDay), reign(0, lastDay), reign(oldNumber(1999, 12, 31), lastDay-1)} {
		g := regnalOf(r)
		for _, k := range append([]int64{g.count(0), g.count(0) + 1, g.count(0) + 4, 1999, 2000, 2001, 2002, 4000}, extremes...) {
			g.checkSpan(t, 0, k)
			g.checkKingYear(t, "carl", k)
			g.checkKingYear(t, "adam", k)
		}
	}
}

// TestKnownKingYears has a king who is told several times, with years that are apart, touch, overlap and
// are within one another, and kings who are not told.
func TestKnownKingYears(t *testing.T) {
	list := []impl.Reign{
		{King: "adam", From: 0, To: 800}, {King: "adam", From: 365, To: 729}, {King: "berta", From: 365, To: 1000}, {King: "adam", From: 800, To: 801},
		{King: "carl", From: 900, To: 900}, {King: "berta", From: 1001, To: 1001}, {King: "doda", From: 2000, To: 2099}, {King: "doda", From: 2050, To: 2060},
		{King: "emma", From: 3000, To: 3400}, {King: "emma", From: 3001, To: 3800}, {King: "fulk", From: 4000, To: 4009}, {King: "fulk", From: 4011, To: 4020},
	}
	for _, c := range []struct {
		king string
		k    int64
		want []impl.Span
	}{
		{"adam", 1, []impl.Span{{From: 0, To: 729}, {From: 800, To: 801}}},
		{"adam", 2, []impl.Span{{From: 365, To: 729}}},
		{"adam", 3, []impl.Span{{From: 730, To: 800}}},
		{"berta", 1, []impl.Span{{From: 365, To: 729}, {From: 1001, To: 1001}}},
		{"berta", 2, []impl.Span{{From: 730, To: 1000}}},
		{"carl", 1, []impl.Span{{From: 900, To: 900}}},
		{"doda", 1, []impl.Span{{From: 2000, To: 2099}}},
		{"emma", 1, []impl.Span{{From: 3000, To: 3365}}},
		{"emma", 2, []impl.Span{{From: 3365, To: 3730}}},
		{"emma", 3, []impl.Span{{From: 3731, To: 3800}}},
		{"fulk", 1, []impl.Span{{From: 4000, To: 4009}, {From: 4011, To: 4020}}},
	} {
		set, code := impl.KingYearSet(list, c.king, c.k)
		checkSpans(t, fmt.Sprintf("KingYearSet(%q, %d)", c.king, c.k), set, code, c.want)
	}
	for _, c := range []struct {
		king string
		k    int64
		code int64
	}{
		{"adam", 4, impl.ErrNotFound}, {"berta", 3, impl.ErrNotFound}, {"carl", 2, impl.ErrNotFound}, {"doda", 2, impl.ErrNotFound}, {"emma", 4, impl.ErrNotFound},
		{"adam", 0, impl.ErrRange}, {"adam", -1, impl.ErrRange}, {"nobody", 0, impl.ErrRange}, {"nobody", 1, impl.ErrNotFound},
		// Texts that are no names are those of no king.
		{"", 1, impl.ErrNotFound}, {"", 0, impl.ErrRange}, {"abcdefghijklm", 1, impl.ErrNotFound}, {"Adam", 1, impl.ErrNotFound}, {"adam ", 1, impl.ErrNotFound},
		{"ada", 1, impl.ErrNotFound}, {"adama", 1, impl.ErrNotFound}, {"adam,berta", 1, impl.ErrNotFound}, {"\xff", 1, impl.ErrNotFound},
	} {
		set, code := impl.KingYearSet(list, c.king, c.k)
		checkNoSpans(t, fmt.Sprintf("KingYearSet(%q, %d)", c.king, c.k), set, code, c.code)
		set, code = impl.KingYearSet(nil, c.king, c.k)
		checkNoSpans(t, fmt.Sprintf("KingYearSet of none (%q, %d)", c.king, c.k), set, code, min(c.code, impl.ErrNotFound))
	}
}

// TestKnownVoidDays has reigns that overlap, touch, and leave gaps of one and of more days, in ranges that
// begin and end in gaps and in reigns.
func TestKnownVoidDays(t *testing.T) {
	list := []impl.Reign{reign(100, 199), reign(150, 160), reign(150, 249), reign(250, 299), reign(301, 400), reign(410, 410)}
	const end = lastDay
	for _, c := range []struct {
		list     []impl.Reign
		from, to int64
		want     []impl.Span
	}{
		{list, 0, end, []impl.Span{{From: 0, To: 99}, {From: 300, To: 300}, {From: 401, To: 409}, {From: 411, To: end}}},
		{list, 99, 99, []impl.Span{{From: 99, To: 99}}}, {list, 100, 100, nil}, {list, 249, 250, nil}, {list, 100, 299, nil}, {list, 100, 300, []impl.Span{{From: 300, To: 300}}},
		{list, 300, 300, []impl.Span{{From: 300, To: 300}}}, {list, 299, 301, []impl.Span{{From: 300, To: 300}}}, {list, 301, 400, nil},
		{list, 98, 100, []impl.Span{{From: 98, To: 99}}}, {list, 400, 410, []impl.Span{{From: 401, To: 409}}}, {list, 402, 408, []impl.Span{{From: 402, To: 408}}},
		{list, 410, 411, []impl.Span{{From: 411, To: 411}}}, {list, 410, 410, nil}, {list, 0, 0, []impl.Span{{From: 0, To: 0}}}, {list, end, end, []impl.Span{{From: end, To: end}}},
		{nil, 0, end, []impl.Span{{From: 0, To: end}}}, {nil, 7, 7, []impl.Span{{From: 7, To: 7}}}, {[]impl.Reign{reign(0, end)}, 0, end, nil},
		{[]impl.Reign{reign(1, end-1)}, 0, end, []impl.Span{{From: 0, To: 0}, {From: end, To: end}}},
		{[]impl.Reign{reign(0, 10), reign(2, 5)}, 0, 12, []impl.Span{{From: 11, To: 12}}},
	} {
		set, code := impl.VoidDays(c.list, c.from, c.to)
		checkSpans(t, fmt.Sprintf("VoidDays(%v, %d, %d)", c.list, c.from, c.to), set, code, c.want)
	}
	for _, c := range [][2]int64{{1, 0}, {300, 299}, {end, 0}, {end, end - 1}, {-1, 0}, {-1, -1}, {0, end + 1}, {end + 1, end + 1}, {end + 1, end}, {math.MaxInt64, math.MinInt64}, {math.MinInt64, math.MaxInt64}} {
		set, code := impl.VoidDays(list, c[0], c[1])
		checkNoSpans(t, fmt.Sprintf("VoidDays(%d, %d)", c[0], c[1]), set, code, impl.ErrRange)
	}
}

// TestKnownDisputedDays has days that are in two and in three reigns, and reigns that are within others,
// of which an early one may last longer than those behind it.
func TestKnownDisputedDays(t *testing.T) {
	for _, c := range []struct {
		list []impl.Reign
		want []impl.Span
	}{
		{nil, nil}, {[]impl.Reign{reign(5, 9)}, nil}, {[]impl.Reign{reign(0, lastDay)}, nil}, {[]impl.Reign{reign(5, 9), reign(10, 12)}, nil},
		{[]impl.Reign{reign(5, 9), reign(11, 12)}, nil}, {[]impl.Reign{reign(5, 9), reign(9, 12)}, []impl.Span{{From: 9, To: 9}}},
		{[]impl.Reign{reign(5, 9), reign(5, 9)}, []impl.Span{{From: 5, To: 9}}}, {[]impl.Reign{reign(5, 5), reign(5, 5)}, []impl.Span{{From: 5, To: 5}}},
		{[]impl.Reign{reign(0, lastDay), reign(0, lastDay)}, []impl.Span{{From: 0, To: lastDay}}}, {[]impl.Reign{reign(0, 0), reign(0, 4)}, []impl.Span{{From: 0, To: 0}}},
		{[]impl.Reign{reign(5, 20), reign(7, 9), reign(12, 25)}, []impl.Span{{From: 7, To: 9}, {From: 12, To: 20}}},
		{[]impl.Reign{reign(5, 20), reign(7, 12), reign(10, 15)}, []impl.Span{{From: 7, To: 15}}}, {[]impl.Reign{reign(5, 9), reign(6, 8), reign(7, 12)}, []impl.Span{{From: 6, To: 9}}},
		{[]impl.Reign{reign(5, 20), reign(7, 9), reign(10, 12)}, []impl.Span{{From: 7, To: 12}}}, {[]impl.Reign{reign(5, 20), reign(7, 9), reign(11, 12)}, []impl.Span{{From: 7, To: 9}, {From: 11, To: 12}}},
		{[]impl.Reign{reign(5, 20), reign(7, 9), reign(11, 30), reign(25, 28)}, []impl.Span{{From: 7, To: 9}, {From: 11, To: 20}, {From: 25, To: 28}}},
		{[]impl.Reign{reign(0, 4), reign(6, 9), reign(lastDay-3, lastDay), reign(lastDay, lastDay)}, []impl.Span{{From: lastDay, To: lastDay}}},
	} {
		set, code := impl.DisputedDays(c.list)
		checkSpans(t, fmt.Sprintf("DisputedDays(%v)", c.list), set, code, c.want)
	}
}

// TestKnownRegnalTexts has days in no reign, in one and in several.
func TestKnownRegnalTexts(t *testing.T) {
	at := func(year int64, month int64, day int64) int64 { return oldNumber(year, month, day) }
	list := []impl.Reign{
		{King: "zita", From: at(1200, 5, 1), To: at(1215, 5, 1)}, {King: "adam", From: at(1204, 2, 29), To: at(1208, 2, 29)},
		{King: "zita", From: at(1204, 2, 29), To: at(1204, 12, 31)}, {King: "abcdefghijkl", From: at(1215, 5, 3), To: at(1215, 5, 3)},
	}
	for _, c := range []struct {
		n    int64
		on   []int64
		text string
	}{
		{at(1200, 4, 30), nil, "-"}, {at(1200, 5, 1), []int64{0}, "1 zita"}, {at(1201, 4, 30), []int64{0}, "1 zita"}, {at(1201, 5, 1), []int64{0}, "2 zita"},
		{at(1204, 2, 28), []int64{0}, "4 zita"}, {at(1204, 2, 29), []int64{0, 1, 2}, "4 zita,1 adam,1 zita"}, {at(1204, 12, 31), []int64{0, 1, 2}, "5 zita,1 adam,1 zita"},
		{at(1205, 2, 28), []int64{0, 1}, "5 zita,1 adam"}, {at(1205, 3, 1), []int64{0, 1}, "5 zita,2 adam"}, {at(1208, 2, 28), []int64{0, 1}, "8 zita,4 adam"},
		{at(1208, 2, 29), []int64{0, 1}, "8 zita,5 adam"}, {at(1208, 3, 1), []int64{0}, "8 zita"}, {at(1215, 4, 30), []int64{0}, "15 zita"}, {at(1215, 5, 1), []int64{0}, "16 zita"},
		{at(1215, 5, 2), nil, "-"}, {at(1215, 5, 3), []int64{3}, "1 abcdefghijkl"}, {at(1215, 5, 4), nil, "-"}, {0, nil, "-"}, {lastDay, nil, "-"},
	} {
		if on, code := impl.ReignsOn(list, c.n); !slices.Equal(on, c.on) || code != impl.ErrNone {
			t.Errorf("ReignsOn %v = %v, %d; want %v", walked().oldDates[c.n], on, code, c.on)
		}
		if text, code := impl.RegnalText(list, c.n); text != c.text || code != impl.ErrNone {
			t.Errorf("RegnalText %v = %q, %d; want %q", walked().oldDates[c.n], text, code, c.text)
		}
		if text, code := impl.RegnalText(nil, c.n); text != "-" || code != impl.ErrNone {
			t.Errorf("RegnalText of no reigns = %q, %d", text, code)
		}
	}
	if text, code := impl.RegnalText([]impl.Reign{reign(0, lastDay)}, lastDay); text != "2000 carl" || code != impl.ErrNone {
		t.Errorf("RegnalText of the longest reign = %q, %d", text, code)
	}
}

// TestMostReigns has lists of as many reigns as there may be: with a gap between any two, all on one day,
// and one reign that has all others within it.
func TestMostReigns(t *testing.T) {
	var apart, within []impl.Reign
	within = append(within, reign(90, 1000))
	for i := range int64(30) {
		apart = append(apart, reign(100+2*i, 100+2*i))
		if i < 29 {
			within = append(within, reign(100+2*i, 100+2*i))
		}
	}
	set, code := impl.VoidDays(apart, 99, 159)
	checkSpans(t, "VoidDays", set, code, single(99, 2, 31))
	set, code = impl.KingYearSet(apart, "carl", 1)
	checkSpans(t, "KingYearSet", set, code, single(100, 2, 30))
	set, code = impl.DisputedDays(within)
	checkSpans(t, "DisputedDays", set, code, single(100, 2, 29))
	all := make([]int64, 30)
	for i := range all {
		all[i] = int64(i)
	}
	same := slices.Repeat([]impl.Reign{reign(500, 500)}, 30)
	if on, code := impl.ReignsOn(same, 500); !slices.Equal(on, all) || code != impl.ErrNone {
		t.Errorf("ReignsOn = %v, %d", on, code)
	}
	if text, code := impl.RegnalText(same, 500); text != strings.Repeat("1 carl,", 29)+"1 carl" || code != impl.ErrNone {
		t.Errorf("RegnalText = %q, %d", text, code)
	}
	for _, list := range [][]impl.Reign{apart, within, same, many(100, 30, 30)} {
		g := regnalOf(list...)
		g.checkDisputed(t)
		g.checkVoid(t, 0, 2000)
		for n := int64(80); n <= 1500; n++ {
			g.checkOn(t, n)
		}
	}
}

// randomReigns tells some reigns of a few kings within some days from a first one on.
func randomReigns(random *rand.Rand, first int64, width int64) []impl.Reign {
	var list []impl.Reign
	for range random.Intn(31) {
		from := first + random.Int63n(width)
		to := min(from+random.Int63n(1+random.Int63n(width)), first+width-1)
		list = append(list, impl.Reign{King: []string{"adam", "berta", "carl", "doda"}[random.Intn(4)], From: from, To: to})
	}
	slices.SortStableFunc(list, func(r impl.Reign, s impl.Reign) int { return int(r.From - s.From) })
	return list[:min(len(list), random.Intn(31))]
}

// TestRandomReigns compares all functions for lists of reigns with the reference.
func TestRandomReigns(t *testing.T) {
	random := rand.New(rand.NewSource(7))
	for range 400 {
		width := 10 + random.Int63n(1+random.Int63n(4000))
		first := []int64{0, lastDay - width + 1, 443000, random.Int63n(lastDay - width)}[random.Intn(4)]
		g := regnalOf(randomReigns(random, first, width)...)
		if !impl.AreReigns(g.list) {
			t.Fatalf("AreReigns(%v) = false", g.list)
		}
		g.checkDisputed(t)
		g.checkVoid(t, max(first-5, 0), min(first+width+5, lastDay))
		for range 20 {
			n := first - 3 + random.Int63n(width+6)
			g.checkOn(t, n)
			g.checkVoid(t, n, n+random.Int63n(width))
			g.checkKingYear(t, []string{"adam", "berta", "carl", "doda", "emma"}[random.Intn(5)], random.Int63n(13))
		}
		for i, r := range g.list {
			n := r.From - 2 + random.Int63n(r.To-r.From+5)
			g.checkYear(t, i, n)
			g.checkSpan(t, i, 1+random.Int63n(g.count(i)+1))
			g.checkOn(t, r.From)
			g.checkOn(t, r.To)
		}
	}
}

// TestReignsAreNotWrittenTo calls all functions with a list that has spare capacity, writes into all of
// their results, and asks again.
func TestReignsAreNotWrittenTo(t *testing.T) {
	for _, list := range [][]impl.Reign{
		{{King: "adam", From: 1000, To: 2000}, {King: "berta", From: 1900, To: 2500}, {King: "adam", From: 2200, To: 3100}}, many(1000, 100, 30), {reign(1000, 1500), reign(1000, 1500)}, {},
	} {
		whole := append(slices.Clone(list), many(5000, -7, 5)...)
		first := slices.Clone(whole)
		given := whole[:len(list)]
		for what, call := range map[string]func() ([]impl.Span, int64){
			"KingYearSet":  func() ([]impl.Span, int64) { return impl.KingYearSet(given, "adam", 1) },
			"VoidDays":     func() ([]impl.Span, int64) { return impl.VoidDays(given, 900, 9000) },
			"DisputedDays": func() ([]impl.Span, int64) { return impl.DisputedDays(given) },
		} {
			got, code := call()
			kept, keptCode := call()
			want := slices.Clone(got)
			spoil(got)
			again, codeAgain := call()
			if !slices.Equal(kept, want) || !slices.Equal(again, want) || code != codeAgain || code != keptCode {
				t.Errorf("%s(%v) = %v, then %v, then %v", what, list, want, kept, again)
			}
		}
		on, _ := impl.ReignsOn(given, 1950)
		kept, _ := impl.ReignsOn(given, 1950)
		for i := range on[:cap(on)] {
			on[:cap(on)][i] = -7
		}
		if want := regnalOf(list...).on(1950); !slices.Equal(kept, want) {
			t.Errorf("ReignsOn(%v) = %v once another result was written to; want %v", list, kept, want)
		}
		impl.AreReigns(given)
		impl.RegnalText(given, 1950)
		if !slices.Equal(whole, first) {
			t.Errorf("%v has become %v", first, whole)
		}
	}
}
