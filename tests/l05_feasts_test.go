package tests

import (
	"fmt"
	"math/rand"
	"slices"
	"strings"
	"sync"
	"testing"

	"loop.example/g01034/impl"
)

// The relations by their numbers, as the document tells them.
const (
	atFeast       = 0
	atEve         = 1
	atOctave      = 2
	weekdayAfter  = 3
	weekdayBefore = 4
)

// The feasts that the tests of known days name.
const (
	circumcision = 0
	epiphany     = 1
	annunciation = 3
	john         = 4
	allsaints    = 9
	andrew       = 11
	nicholas     = 12
	christmas    = 13
	ashes        = 14
	palms        = 15
	easter       = 16
	ascension    = 17
	pentecost    = 18
	trinity      = 19
)

// knownFeasts are the feasts by their numbers; those with a month have a date, the others are later
// than Easter by some days.
var knownFeasts = []struct {
	name              string
	month, day, later int64
}{
	{"circumcision", 1, 1, 0}, {"epiphany", 1, 6, 0}, {"candlemas", 2, 2, 0}, {"annunciation", 3, 25, 0}, {"john", 6, 24, 0},
	{"peter", 6, 29, 0}, {"laurence", 8, 10, 0}, {"assumption", 8, 15, 0}, {"michael", 9, 29, 0}, {"allsaints", 11, 1, 0},
	{"martin", 11, 11, 0}, {"andrew", 11, 30, 0}, {"nicholas", 12, 6, 0}, {"christmas", 12, 25, 0},
	{"ashes", 0, 0, -46}, {"palms", 0, 0, -7}, {"easter", 0, 0, 0}, {"ascension", 0, 0, 39}, {"pentecost", 0, 0, 49}, {"trinity", 0, 0, 56},
}

// feasts holds the days of all feasts by number and year, the feasts of each day, and for each day the
// next one that has a feast, or -1. It is the reference for all tests of feasts.
type feasts struct {
	days [20][2001]int64
	on   [][]int64
	next []int64
}

var feastCalendar = sync.OnceValue(func() *feasts {
	f := &feasts{on: make([][]int64, impl.MaxDay+1), next: make([]int64, impl.MaxDay+1)}
	for feast, known := range knownFeasts {
		for year := int64(1); year <= 2000; year++ {
			n := easterDays().old[year] + known.later
			if known.month > 0 {
				n = walked().oldNumbers[place(impl.Date{Year: year, Month: known.month, Day: known.day})]
			}
			f.days[feast][year] = n
			f.on[n] = append(f.on[n], int64(feast))
		}
	}
	next := int64(-1)
	for n := int64(impl.MaxDay); n >= 0; n-- {
		if len(f.on[n]) > 0 {
			next = n
		}
		f.next[n] = next
	}
	return f
})

// isDayNumber tells whether n is a day.
func isDayNumber(n int64) bool { return n >= 0 && n <= impl.MaxDay }

// isRelation tells whether a relation may have a weekday.
func isRelation(relation int64, weekday int64) bool {
	if relation == weekdayAfter || relation == weekdayBefore {
		return weekday >= 0 && weekday <= 6
	}
	return relation >= atFeast && relation <= atOctave && weekday == 0
}

// weekdayIs tells whether a day, or a number near the days, has a weekday; the day 0 is a Saturday.
func weekdayIs(n int64, weekday int64) bool { return (n+5+700)%7 == weekday }

// relatedTo goes on from a day to the one with a relation to it, day by day; this may be no day.
func relatedTo(n int64, relation int64, weekday int64) int64 {
	switch relation {
	case atEve:
		n--
	case atOctave:
		n += 7
	case weekdayAfter:
		for n++; !weekdayIs(n, weekday); n++ {
		}
	case weekdayBefore:
		for n--; !weekdayIs(n, weekday); n-- {
		}
	}
	return n
}

// relatedDay tells what RelatedDay has to return.
func relatedDay(feast int64, relation int64, weekday int64, year int64) (int64, int64) {
	if feast < 0 || feast > 19 || !isYear(year) || !isRelation(relation, weekday) {
		return 0, impl.ErrRange
	}
	n := relatedTo(feastCalendar().days[feast][year], relation, weekday)
	if !isDayNumber(n) {
		return 0, impl.ErrNotFound
	}
	return n, impl.ErrNone
}

// nearestFeast tells what NearestFeast has to return for a day: it looks at the days on both sides, the
// earlier one first, farther and farther away.
func nearestFeast(n int64) (int64, int64) {
	for by := int64(0); ; by++ {
		for _, day := range []int64{n - by, n + by} {
			if isDayNumber(day) && len(feastCalendar().on[day]) > 0 {
				return feastCalendar().on[day][0], n - day
			}
		}
	}
}

// feastDays tells what FeastDays has to return; it looks at all years.
func feastDays(feast int64, relation int64, weekday int64, from int64, to int64) ([]impl.Span, int64) {
	if feast < 0 || feast > 19 || !isRelation(relation, weekday) {
		return nil, impl.ErrRange
	}
	if !isDayNumber(from) || !isDayNumber(to) || from > to || from < to-73000 {
		return nil, impl.ErrRange
	}
	var set []impl.Span
	for year := int64(1); year <= 2000; year++ {
		n, code := relatedDay(feast, relation, weekday, year)
		if code == impl.ErrNone && n >= from && n <= to {
			set = append(set, impl.Span{From: n, To: n})
		}
	}
	return set, impl.ErrNone
}

func checkRelatedDay(t *testing.T, feast int64, relation int64, weekday int64, year int64) {
	t.Helper()
	want, wantCode := relatedDay(feast, relation, weekday, year)
	if n, code := impl.RelatedDay(feast, relation, weekday, year); n != want || code != wantCode {
		t.Errorf("RelatedDay(%d, %d, %d, %d) = %d, %d; want %d, %d", feast, relation, weekday, year, n, code, want, wantCode)
	}
}

func checkFeastDay(t *testing.T, feast int64, year int64) {
	t.Helper()
	want, wantCode := relatedDay(feast, atFeast, 0, year)
	if n, code := impl.FeastDay(feast, year); n != want || code != wantCode {
		t.Errorf("FeastDay(%d, %d) = %d, %d; want %d, %d", feast, year, n, code, want, wantCode)
	}
}

// checkFeastsAround compares the three functions that ask for the feasts on or near a number.
func checkFeastsAround(t *testing.T, n int64) {
	t.Helper()
	var on []int64
	next, nextFeast, nextCode := int64(0), int64(0), int64(impl.ErrRange)
	nearest, away, code := int64(0), int64(0), int64(impl.ErrRange)
	if isDayNumber(n) {
		on = feastCalendar().on[n]
		nearest, away = nearestFeast(n)
		code, nextCode = impl.ErrNone, impl.ErrNotFound
		if day := feastCalendar().next[n]; day >= 0 {
			next, nextFeast, nextCode = day, feastCalendar().on[day][0], impl.ErrNone
		}
	}
	if list, got := impl.FeastsOn(n); !slices.Equal(list, on) || got != code {
		t.Errorf("FeastsOn(%d) = %v, %d; want %v, %d", n, list, got, on, code)
	}
	if day, feast, got := impl.NextFeast(n); day != next || feast != nextFeast || got != nextCode {
		t.Errorf("NextFeast(%d) = %d, %d, %d; want %d, %d, %d", n, day, feast, got, next, nextFeast, nextCode)
	}
	if feast, by, got := impl.NearestFeast(n); feast != nearest || by != away || got != code {
		t.Errorf("NearestFeast(%d) = %d, %d, %d; want %d, %d, %d", n, feast, by, got, nearest, away, code)
	}
}

func checkFeastDays(t *testing.T, feast int64, relation int64, weekday int64, from int64, to int64) {
	t.Helper()
	want, wantCode := feastDays(feast, relation, weekday, from, to)
	set, code := impl.FeastDays(feast, relation, weekday, from, to)
	if !slices.Equal(set, want) || code != wantCode {
		t.Errorf("FeastDays(%d, %d, %d, %d, %d) = %v, %d; want %v, %d", feast, relation, weekday, from, to, set, code, want, wantCode)
	}
	if !impl.IsSet(set) {
		t.Errorf("FeastDays(%d, %d, %d, %d, %d) is no set", feast, relation, weekday, from, to)
	}
}

// oldNumber tells the day of an old date.
func oldNumber(year int64, month int64, day int64) int64 {
	return walked().oldNumbers[place(impl.Date{Year: year, Month: month, Day: day})]
}

func TestNumbersOfRelations(t *testing.T) {
	relations := [...]int64{impl.AtFeast, impl.AtEve, impl.AtOctave, impl.WeekdayAfter, impl.WeekdayBefore}
	if relations != [...]int64{0, 1, 2, 3, 4} {
		t.Errorf("relations %v", relations)
	}
}

// TestWeekdaysAroundFeasts is promise 5: it asks for each weekday behind and before each feast of all
// years, and wants it from one to seven days away.
func TestWeekdaysAroundFeasts(t *testing.T) {
	for feast := range int64(20) {
		for year := int64(1); year <= 2000; year++ {
			day, code := impl.FeastDay(feast, year)
			if day != feastCalendar().days[feast][year] || code != impl.ErrNone {
				t.Errorf("FeastDay(%d, %d) = %d, %d", feast, year, day, code)
			}
			for weekday := range int64(7) {
				checkWeekdaysAround(t, feast, year, weekday, day)
			}
		}
	}
}

// checkWeekdaysAround checks one weekday behind and before a feast on a day. It may be missing only
// within a week of the first and the last day.
func checkWeekdaysAround(t *testing.T, feast int64, year int64, weekday int64, day int64) {
	t.Helper()
	after, code := impl.RelatedDay(feast, impl.WeekdayAfter, weekday, year)
	if w, _ := impl.WeekdayOf(after); code == impl.ErrNone && (w != weekday || after <= day || after > day+7) {
		t.Errorf("weekday %d after feast %d of %d, which is on %d: %d", weekday, feast, year, day, after)
	}
	if code != impl.ErrNone && (code != impl.ErrNotFound || day+7 <= impl.MaxDay) {
		t.Errorf("weekday %d after feast %d of %d: code %d", weekday, feast, year, code)
	}
	before, code := impl.RelatedDay(feast, impl.WeekdayBefore, weekday, year)
	if w, _ := impl.WeekdayOf(before); code == impl.ErrNone && (w != weekday || before >= day || before < day-7) {
		t.Errorf("weekday %d before feast %d of %d, which is on %d: %d", weekday, feast, year, day, before)
	}
	if code != impl.ErrNone && (code != impl.ErrNotFound || day >= 7) {
		t.Errorf("weekday %d before feast %d of %d: code %d", weekday, feast, year, code)
	}
}

// TestAllRelatedDays has all feasts in all years with all relations and weekdays, and one more and one
// less of each.
func TestAllRelatedDays(t *testing.T) {
	for feast := int64(-1); feast <= 20; feast++ {
		for year := int64(0); year <= 2001; year++ {
			checkFeastDay(t, feast, year)
			for relation := int64(-1); relation <= 5; relation++ {
				for weekday := int64(-1); weekday <= 7; weekday++ {
					checkRelatedDay(t, feast, relation, weekday, year)
				}
			}
		}
	}
}

// TestRelatedDaysAtTheEnds has the days before the first one and behind the last one that feasts have,
// and their neighbours. January 1 of the year 1 is a Saturday, and December 25 of the year 2000 a Sunday.
func TestRelatedDaysAtTheEnds(t *testing.T) {
	for _, c := range []struct{ feast, relation, weekday, year, n, code int64 }{
		{circumcision, atFeast, 0, 1, 0, impl.ErrNone},
		{circumcision, atEve, 0, 1, 0, impl.ErrNotFound},
		{circumcision, atEve, 0, 2, 364, impl.ErrNone},
		{circumcision, weekdayBefore, 5, 1, 0, impl.ErrNotFound},
		{circumcision, weekdayBefore, 4, 1, 0, impl.ErrNotFound},
		{circumcision, weekdayAfter, 5, 1, 7, impl.ErrNone},
		{circumcision, weekdayAfter, 6, 1, 1, impl.ErrNone},
		{epiphany, weekdayBefore, 5, 1, 0, impl.ErrNone},
		{epiphany, weekdayBefore, 4, 1, 0, impl.ErrNotFound},
		{epiphany, weekdayBefore, 3, 1, 0, impl.ErrNotFound},
		{epiphany, weekdayBefore, 2, 1, 4, impl.ErrNone},
		{christmas, atFeast, 0, 2000, impl.MaxDay - 6, impl.ErrNone},
		{christmas, atEve, 0, 2000, impl.MaxDay - 7, impl.ErrNone},
		{christmas, atOctave, 0, 2000, 0, impl.ErrNotFound},
		{christmas, atOctave, 0, 1999, impl.MaxDay - 365, impl.ErrNone},
		{christmas, weekdayAfter, 6, 2000, 0, impl.ErrNotFound},
		{christmas, weekdayAfter, 5, 2000, impl.MaxDay, impl.ErrNone},
		{christmas, weekdayAfter, 0, 2000, impl.MaxDay - 5, impl.ErrNone},
		{nicholas, atOctave, 0, 2000, impl.MaxDay - 18, impl.ErrNone},
	} {
		if n, code := impl.RelatedDay(c.feast, c.relation, c.weekday, c.year); n != c.n || code != c.code {
			t.Errorf("RelatedDay(%d, %d, %d, %d) = %d, %d; want %d, %d", c.feast, c.relation, c.weekday, c.year, n, code, c.n, c.code)
		}
	}
}

// TestKnownRelatedDays has days of the year 1285, in which Easter and annunciation fell on the same
// Sunday, among them those of feasts that fall on the weekday that is asked for.
func TestKnownRelatedDays(t *testing.T) {
	for _, c := range []struct{ feast, relation, weekday, month, day int64 }{
		{annunciation, atFeast, 0, 3, 25}, {annunciation, atEve, 0, 3, 24}, {annunciation, atOctave, 0, 4, 1},
		{annunciation, weekdayAfter, 6, 4, 1}, {annunciation, weekdayAfter, 0, 3, 26}, {annunciation, weekdayAfter, 5, 3, 31},
		{annunciation, weekdayBefore, 6, 3, 18}, {annunciation, weekdayBefore, 0, 3, 19}, {annunciation, weekdayBefore, 5, 3, 24},
		{easter, atFeast, 0, 3, 25}, {easter, atOctave, 0, 4, 1}, {easter, weekdayBefore, 4, 3, 23},
		{ashes, atFeast, 0, 2, 7}, {ashes, weekdayAfter, 2, 2, 14}, {ashes, weekdayBefore, 2, 1, 31}, {ashes, atEve, 0, 2, 6},
		{palms, atFeast, 0, 3, 18}, {palms, weekdayAfter, 6, 3, 25}, {ascension, atFeast, 0, 5, 3}, {ascension, atEve, 0, 5, 2},
		{pentecost, atFeast, 0, 5, 13}, {pentecost, weekdayAfter, 0, 5, 14}, {trinity, atFeast, 0, 5, 20}, {trinity, weekdayAfter, 3, 5, 24},
		{epiphany, atEve, 0, 1, 5}, {epiphany, atOctave, 0, 1, 13}, {nicholas, atFeast, 0, 12, 6}, {christmas, atEve, 0, 12, 24},
	} {
		want := oldNumber(1285, c.month, c.day)
		if n, code := impl.RelatedDay(c.feast, c.relation, c.weekday, 1285); n != want || code != impl.ErrNone {
			t.Errorf("RelatedDay(%d, %d, %d) = %d, %d, which is %v; want %d", c.feast, c.relation, c.weekday, n, code, walked().oldDates[n], want)
		}
	}
}

// TestRelatedDaysInOtherYears has eves, octaves and weekdays that are behind or before a turn of the year,
// and, in leap years, around February 29.
func TestRelatedDaysInOtherYears(t *testing.T) {
	for _, c := range []struct {
		feast, relation, weekday, year int64
		d                              impl.Date
	}{
		{circumcision, atEve, 0, 1215, impl.Date{Year: 1214, Month: 12, Day: 31}},
		{circumcision, weekdayBefore, 3, 1215, impl.Date{Year: 1214, Month: 12, Day: 25}}, // a Thursday itself
		{circumcision, weekdayBefore, 2, 1215, impl.Date{Year: 1214, Month: 12, Day: 31}},
		{epiphany, weekdayBefore, 1, 1215, impl.Date{Year: 1214, Month: 12, Day: 30}}, // a Tuesday itself
		{epiphany, weekdayBefore, 0, 1215, impl.Date{Year: 1215, Month: 1, Day: 5}},
		{christmas, atOctave, 0, 1215, impl.Date{Year: 1216, Month: 1, Day: 1}},
		{christmas, weekdayAfter, 4, 1215, impl.Date{Year: 1216, Month: 1, Day: 1}}, // a Friday itself
		{christmas, weekdayAfter, 3, 1215, impl.Date{Year: 1215, Month: 12, Day: 31}},
		{ashes, atOctave, 0, 1204, impl.Date{Year: 1204, Month: 3, Day: 17}},
		{ashes, atOctave, 0, 1136, impl.Date{Year: 1136, Month: 2, Day: 12}},
		{ashes, atFeast, 0, 1136, impl.Date{Year: 1136, Month: 2, Day: 5}},
	} {
		n, code := impl.RelatedDay(c.feast, c.relation, c.weekday, c.year)
		if d, _ := impl.OldDate(n); d != c.d || code != impl.ErrNone {
			t.Errorf("RelatedDay(%d, %d, %d, %d) = %v, %d; want %v", c.feast, c.relation, c.weekday, c.year, d, code, c.d)
		}
	}
}

// TestErrorsOfRelatedDays has arguments of which one or several are not as told: that is ErrRange, also
// where the day would be none.
func TestErrorsOfRelatedDays(t *testing.T) {
	for _, c := range []struct{ feast, relation, weekday, year, code int64 }{
		{circumcision, atEve, 0, 1, impl.ErrNotFound},
		{circumcision, atEve, 1, 1, impl.ErrRange}, {circumcision, atEve, -1, 1, impl.ErrRange}, {circumcision, atEve, 0, 0, impl.ErrRange},
		{-1, atEve, 0, 1, impl.ErrRange}, {20, atEve, 0, 1, impl.ErrRange}, {circumcision, -1, 0, 1, impl.ErrRange}, {circumcision, 5, 0, 1, impl.ErrRange},
		{circumcision, weekdayBefore, 6, 1, impl.ErrNotFound}, {circumcision, weekdayBefore, 7, 1, impl.ErrRange},
		{circumcision, weekdayBefore, -1, 1, impl.ErrRange}, {circumcision, weekdayBefore, 6, 0, impl.ErrRange},
		{christmas, atOctave, 0, 2000, impl.ErrNotFound}, {christmas, atOctave, 6, 2000, impl.ErrRange}, {christmas, atOctave, 0, 2001, impl.ErrRange},
		{christmas, weekdayAfter, 6, 2000, impl.ErrNotFound}, {christmas, weekdayAfter, 7, 2000, impl.ErrRange},
		{easter, atFeast, 6, 1215, impl.ErrRange}, {easter, atFeast, 1, 1215, impl.ErrRange}, {trinity + 1, atFeast, 0, 1215, impl.ErrRange},
	} {
		if n, code := impl.RelatedDay(c.feast, c.relation, c.weekday, c.year); n != 0 || code != c.code {
			t.Errorf("RelatedDay(%d, %d, %d, %d) = %d, %d; want code %d", c.feast, c.relation, c.weekday, c.year, n, code, c.code)
		}
	}
}

// TestRelatedDaysOfExtremeNumbers puts each extreme in each place, and two of them in any two.
func TestRelatedDaysOfExtremeNumbers(t *testing.T) {
	for _, one := range append([]int64{-1, 5, 7, 20, 2001}, extremes...) {
		checkFeastDay(t, one, 1215)
		checkFeastDay(t, easter, one)
		for i := range 4 {
			for _, relation := range []int64{atFeast, atEve, atOctave, weekdayAfter, weekdayBefore} {
				args := [4]int64{easter, relation, 0, 1215}
				args[i] = one
				checkRelatedDay(t, args[0], args[1], args[2], args[3])
				for _, two := range extremes {
					for j := range 4 {
						pair := args
						pair[j] = two
						checkRelatedDay(t, pair[0], pair[1], pair[2], pair[3])
					}
				}
			}
		}
	}
}

func TestNamesOfFeasts(t *testing.T) {
	for feast, known := range knownFeasts {
		if name := impl.FeastName(int64(feast)); name != known.name {
			t.Errorf("FeastName(%d) = %q; want %q", feast, name, known.name)
		}
		if number, ok := impl.FeastNamed(known.name); number != int64(feast) || !ok {
			t.Errorf("FeastNamed(%q) = %d, %v; want %d", known.name, number, ok, feast)
		}
	}
	for _, feast := range append([]int64{-2, 20, 21, 40}, extremes...) {
		if name := impl.FeastName(feast); name != "" {
			t.Errorf("FeastName(%d) = %q", feast, name)
		}
	}
}

// nearly lists texts that are nearly a name: with a byte more or less, in other letters, and with blanks.
func nearly(name string) []string {
	return []string{
		strings.ToUpper(name), strings.ToUpper(name[:1]) + name[1:], name + "s", name + "\x00", name + "\n", " " + name, name + " ", name + name,
		name[1:], name[:len(name)-1], strings.Replace(name, "a", "\u0430", 1) + "\u0430",
	}
}

// TestTextsThatAreNoFeasts has texts that are nearly names, and others.
func TestTextsThatAreNoFeasts(t *testing.T) {
	texts := []string{"", " ", "0", "16", "-", "all saints", "feast", "lent", "advent", "xmas", "easter,palms", "circumcisio\u006e\u0301"}
	for _, known := range knownFeasts {
		texts = append(texts, nearly(known.name)...)
	}
	for _, text := range texts {
		if feast, ok := impl.FeastNamed(text); feast != 0 || ok {
			t.Errorf("FeastNamed(%q) = %d, %v", text, feast, ok)
		}
	}
}

// TestFeastsAroundAllDays asks for the feasts on and near each day, and each number around the days.
func TestFeastsAroundAllDays(t *testing.T) {
	for n := int64(-400); n <= impl.MaxDay+400; n++ {
		checkFeastsAround(t, n)
	}
	for _, n := range extremes {
		checkFeastsAround(t, n)
	}
}

// TestFeastsFallOnTheirDays finds each feast of all years on its day, and it alone or with others.
func TestFeastsFallOnTheirDays(t *testing.T) {
	count := 0
	for year := int64(1); year <= 2000; year++ {
		for feast := range int64(20) {
			day, _ := impl.FeastDay(feast, year)
			list, code := impl.FeastsOn(day)
			if !slices.Contains(list, feast) || !slices.IsSorted(list) || code != impl.ErrNone {
				t.Errorf("FeastsOn(%d) = %v, %d; want feast %d of %d in it", day, list, code, feast, year)
			}
			next, first, _ := impl.NextFeast(day)
			nearest, away, _ := impl.NearestFeast(day)
			if next != day || away != 0 || len(list) == 0 || first != list[0] || nearest != list[0] {
				t.Errorf("on %d: next feast %d on %d, nearest %d, %d away; want those of %v", day, first, next, nearest, away, list)
			}
			if len(list) > 0 && list[0] == feast {
				count += len(list)
			}
		}
	}
	if count != 2000*20 {
		t.Errorf("%d feasts were told", count)
	}
}

func TestKnownFeastsOnDays(t *testing.T) {
	for _, c := range []struct {
		n      int64
		feasts []int64
	}{
		{oldNumber(1285, 3, 25), []int64{annunciation, easter}},
		{oldNumber(1, 1, 1), []int64{circumcision}},
		{oldNumber(1, 1, 2), nil},
		{oldNumber(1215, 3, 25), []int64{annunciation}},
		{oldNumber(1215, 4, 19), []int64{easter}},
		{oldNumber(1284, 2, 29), nil},
		{oldNumber(1204, 6, 24), []int64{john}},
		{oldNumber(2000, 12, 25), []int64{christmas}},
		{impl.MaxDay, nil},
	} {
		if list, code := impl.FeastsOn(c.n); !slices.Equal(list, c.feasts) || code != impl.ErrNone {
			t.Errorf("FeastsOn(%d) = %v, %d; want %v", c.n, list, code, c.feasts)
		}
	}
}

// TestKnownNextFeasts has days of two feasts, turns of the year, and the end of the days.
func TestKnownNextFeasts(t *testing.T) {
	for _, c := range []struct{ n, day, feast, code int64 }{
		{0, 0, circumcision, impl.ErrNone},
		{1, 5, epiphany, impl.ErrNone},
		{oldNumber(1285, 3, 25), oldNumber(1285, 3, 25), annunciation, impl.ErrNone},
		{oldNumber(1285, 3, 19), oldNumber(1285, 3, 25), annunciation, impl.ErrNone},
		{oldNumber(1285, 3, 18), oldNumber(1285, 3, 18), palms, impl.ErrNone},
		{oldNumber(1285, 3, 26), oldNumber(1285, 5, 3), ascension, impl.ErrNone},
		{oldNumber(1285, 12, 25), oldNumber(1285, 12, 25), christmas, impl.ErrNone},
		{oldNumber(1285, 12, 26), oldNumber(1286, 1, 1), circumcision, impl.ErrNone},
		{oldNumber(1285, 12, 31), oldNumber(1286, 1, 1), circumcision, impl.ErrNone},
		{oldNumber(1999, 12, 26), oldNumber(2000, 1, 1), circumcision, impl.ErrNone},
		{oldNumber(2000, 12, 25), oldNumber(2000, 12, 25), christmas, impl.ErrNone},
		{oldNumber(2000, 12, 7), oldNumber(2000, 12, 25), christmas, impl.ErrNone},
		{oldNumber(2000, 12, 26), 0, 0, impl.ErrNotFound},
		{impl.MaxDay, 0, 0, impl.ErrNotFound},
		{impl.MaxDay + 1, 0, 0, impl.ErrRange},
		{-1, 0, 0, impl.ErrRange},
	} {
		if day, feast, code := impl.NextFeast(c.n); day != c.day || feast != c.feast || code != c.code {
			t.Errorf("NextFeast(%d) = %d, %d, %d; want %d, %d, %d", c.n, day, feast, code, c.day, c.feast, c.code)
		}
	}
}

// TestKnownNearestFeasts has days that are as far from two feasts, from two of one day, and days whose
// nearest feast is in another year.
func TestKnownNearestFeasts(t *testing.T) {
	for _, c := range []struct{ n, feast, away, code int64 }{
		{0, circumcision, 0, impl.ErrNone},
		{2, circumcision, 2, impl.ErrNone},
		{3, epiphany, -2, impl.ErrNone},
		{oldNumber(1215, 12, 28), christmas, 3, impl.ErrNone},
		{oldNumber(1215, 12, 29), circumcision, -3, impl.ErrNone},
		{oldNumber(1215, 12, 31), circumcision, -1, impl.ErrNone},
		{oldNumber(1216, 1, 1), circumcision, 0, impl.ErrNone},
		{oldNumber(1215, 11, 6), allsaints, 5, impl.ErrNone}, // as far from allsaints as from martin
		{oldNumber(1215, 12, 3), andrew, 3, impl.ErrNone},    // from andrew as from nicholas
		{oldNumber(1285, 3, 27), annunciation, 2, impl.ErrNone},
		{oldNumber(1285, 3, 23), annunciation, -2, impl.ErrNone},
		{oldNumber(1285, 3, 21), palms, 3, impl.ErrNone},
		{oldNumber(1215, 5, 30), ascension, 2, impl.ErrNone},
		{oldNumber(1999, 12, 30), circumcision, -2, impl.ErrNone},
		{oldNumber(2000, 12, 31), christmas, 6, impl.ErrNone},
		{oldNumber(2000, 12, 28), christmas, 3, impl.ErrNone},
		{impl.MaxDay + 1, 0, 0, impl.ErrRange},
		{-1, 0, 0, impl.ErrRange},
	} {
		if feast, away, code := impl.NearestFeast(c.n); feast != c.feast || away != c.away || code != c.code {
			t.Errorf("NearestFeast(%d) = %d, %d, %d; want %d, %d, %d", c.n, feast, away, code, c.feast, c.away, c.code)
		}
	}
}

// TestKnownFeastDays has ranges that end on, before and behind related days in the year of their feast
// and in another one, ranges of one day, and the ends of the days.
func TestKnownFeastDays(t *testing.T) {
	const last = impl.MaxDay
	eve, octave := oldNumber(1214, 12, 31), oldNumber(1216, 1, 1)
	easters := [2]int64{oldNumber(1285, 3, 25), oldNumber(1286, 4, 14)}
	for _, c := range []struct {
		feast, relation, weekday, from, to int64
		days                               []int64
	}{
		{circumcision, atEve, 0, eve, eve, []int64{eve}},
		{circumcision, atEve, 0, eve - 100, eve, []int64{eve}},
		{circumcision, atEve, 0, eve - 100, eve - 1, nil},
		{circumcision, atEve, 0, eve + 1, eve + 364, nil},
		{circumcision, atEve, 0, eve + 1, eve + 365, []int64{eve + 365}},
		{christmas, atOctave, 0, octave, octave, []int64{octave}},
		{christmas, atOctave, 0, octave, octave + 365, []int64{octave}},
		{christmas, atOctave, 0, octave, octave + 366, []int64{octave, octave + 366}},
		{christmas, atOctave, 0, octave + 1, octave + 365, nil},
		{easter, atFeast, 0, easters[0], easters[1], easters[:]},
		{easter, atFeast, 0, easters[0] + 1, easters[1], easters[1:]},
		{easter, atFeast, 0, easters[0], easters[1] - 1, easters[:1]},
		{easter, atFeast, 0, easters[0] + 1, easters[1] - 1, nil},
		{circumcision, atEve, 0, 0, 363, nil},
		{circumcision, atEve, 0, 0, 364, []int64{364}},
		{circumcision, weekdayBefore, 5, 0, 1, nil},
		{epiphany, weekdayBefore, 5, 0, 1, []int64{0}},
		{circumcision, atFeast, 0, 0, 0, []int64{0}},
		{christmas, atOctave, 0, last - 365, last, []int64{last - 365}},
		{christmas, weekdayAfter, 5, last, last, []int64{last}},
		{christmas, weekdayAfter, 6, last, last, nil},
		{circumcision, atEve, 0, last, last, nil},
	} {
		var want []impl.Span
		for _, n := range c.days {
			want = append(want, impl.Span{From: n, To: n})
		}
		set, code := impl.FeastDays(c.feast, c.relation, c.weekday, c.from, c.to)
		checkSpans(t, fmt.Sprintf("FeastDays(%d, %d, %d, %d, %d)", c.feast, c.relation, c.weekday, c.from, c.to), set, code, want)
	}
}

// TestLimitsOfFeastDays has the longest ranges and those one longer, at both ends of the days and between.
func TestLimitsOfFeastDays(t *testing.T) {
	for _, c := range []struct{ from, to, code int64 }{
		{0, 73000, impl.ErrNone}, {0, 73001, impl.ErrRange}, {1, 73001, impl.ErrNone}, {433370, 506370, impl.ErrNone}, {433370, 506371, impl.ErrRange},
		{impl.MaxDay - 73000, impl.MaxDay, impl.ErrNone}, {impl.MaxDay - 73001, impl.MaxDay, impl.ErrRange}, {0, impl.MaxDay, impl.ErrRange},
		{impl.MaxDay - 1, impl.MaxDay + 1, impl.ErrRange}, {impl.MaxDay + 1, impl.MaxDay + 1, impl.ErrRange}, {-1, 0, impl.ErrRange}, {-1, -1, impl.ErrRange},
		{433370, 433370, impl.ErrNone}, {433370, 433369, impl.ErrRange}, {impl.MaxDay, 0, impl.ErrRange}, {1, 0, impl.ErrRange},
	} {
		set, code := impl.FeastDays(easter, atFeast, 0, c.from, c.to)
		if code != c.code || code != impl.ErrNone && len(set) != 0 {
			t.Errorf("FeastDays from %d to %d: %d spans, %d; want code %d", c.from, c.to, len(set), code, c.code)
		}
		for feast := range int64(20) {
			checkFeastDays(t, feast, atFeast, 0, c.from, c.to)
			checkFeastDays(t, feast, weekdayAfter, 6, c.from, c.to)
			checkFeastDays(t, feast, weekdayBefore, 0, c.from, c.to)
		}
	}
}

// TestFeastDaysOfAllRelations has the whole of all years, in ranges that meet, and then shorter ones.
func TestFeastDaysOfAllRelations(t *testing.T) {
	random := rand.New(rand.NewSource(7))
	for feast := int64(-1); feast <= 20; feast++ {
		for relation := int64(-1); relation <= 5; relation++ {
			for weekday := int64(-1); weekday <= 7; weekday++ {
				checkFeastDays(t, feast, relation, weekday, 0, 1000)
				checkFeastDays(t, feast, relation, weekday, impl.MaxDay-1000, impl.MaxDay)
				from := random.Int63n(impl.MaxDay - 73000)
				checkFeastDays(t, feast, relation, weekday, from, from+random.Int63n(73001))
			}
		}
		for from := int64(0); from <= impl.MaxDay; from += 73001 {
			checkFeastDays(t, feast, atEve, 0, from, min(from+73000, impl.MaxDay))
			checkFeastDays(t, feast, atOctave, 0, from, min(from+73000, impl.MaxDay))
		}
	}
}

// TestFeastDaysOfExtremeNumbers puts each extreme in each place, and two of them in any two.
func TestFeastDaysOfExtremeNumbers(t *testing.T) {
	for _, one := range append([]int64{-1, 5, 7, 20, impl.MaxDay + 1}, extremes...) {
		for i := range 5 {
			args := [5]int64{easter, weekdayAfter, 0, 433370, 440000}
			args[i] = one
			checkFeastDays(t, args[0], args[1], args[2], args[3], args[4])
			for _, two := range extremes {
				for j := range 5 {
					pair := args
					pair[j] = two
					checkFeastDays(t, pair[0], pair[1], pair[2], pair[3], pair[4])
				}
			}
		}
	}
}

// TestFeastsGiveNewMemory writes over lists, and what lies behind them, and asks again.
func TestFeastsGiveNewMemory(t *testing.T) {
	n := oldNumber(1285, 3, 25)
	list, _ := impl.FeastsOn(n)
	other, _ := impl.FeastsOn(n)
	set, _ := impl.FeastDays(easter, atFeast, 0, n, n+5000)
	otherSet, _ := impl.FeastDays(easter, atFeast, 0, n, n+5000)
	want, _ := feastDays(easter, atFeast, 0, n, n+5000)
	for i := range list[:cap(list)] {
		list[:cap(list)][i] = -7
	}
	for i := range set[:cap(set)] {
		set[:cap(set)][i] = impl.Span{From: -7, To: -7}
	}
	if !slices.Equal(other, []int64{annunciation, easter}) || !slices.Equal(otherSet, want) || len(want) == 0 {
		t.Errorf("lists were written to with other ones: %v, %v", other, otherSet)
	}
	checkFeastsAround(t, n)
	checkFeastDays(t, easter, atFeast, 0, n, n+5000)
}
