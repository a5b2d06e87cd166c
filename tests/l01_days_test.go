package tests

import (
	"fmt"
	"math"
	"testing"

	"loop.example/g01034/impl"
)

const (
	firstNewDay = 2
	lastNewDay  = 730486
)

// extremes are numbers that belong to nothing, at and around the limits of int64 and of what fits
// into 32 bits, and some that would come into range if a sum or a product were to wrap around.
var extremes = []int64{
	math.MinInt64, math.MinInt64 + 1, math.MinInt64 + 5, math.MinInt64 / 2, math.MinInt64 / 4, math.MinInt32,
	-730500, -1000, -1,
	math.MaxInt32 + 1, 1 << 32, 1<<32 + 1, 1 << 62, 1<<62 + 1, math.MaxInt64 / 4, math.MaxInt64 / 2,
	math.MaxInt64 - 5, math.MaxInt64 - 1, math.MaxInt64,
}

func leapOld(year int64) bool { return year%4 == 0 }

func leapNew(year int64) bool { return year%400 == 0 || year%4 == 0 && year%100 != 0 }

// lengthOf tells the length of a month by a table, and 0 for a month that there is not.
func lengthOf(month int64, leap bool) int64 {
	if month < 1 || month > 12 {
		return 0
	}
	if month == 2 && leap {
		return 29
	}
	return [...]int64{31, 28, 31, 30, 31, 30, 31, 31, 30, 31, 30, 31}[month-1]
}

func isDate(d impl.Date, leap func(int64) bool) bool {
	return d.Year >= 1 && d.Year <= 2000 && d.Day >= 1 && d.Day <= lengthOf(d.Month, leap(d.Year))
}

// following goes on by one day, without any number of days.
func following(d impl.Date, leap func(int64) bool) impl.Date {
	d.Day++
	if d.Day > lengthOf(d.Month, leap(d.Year)) {
		d.Day = 1
		d.Month++
	}
	if d.Month > 12 {
		d.Month = 1
		d.Year++
	}
	return d
}

func TestErrorCodesAndLimits(t *testing.T) {
	codes := [...]int64{impl.ErrNone, impl.ErrInvalid, impl.ErrRange, impl.ErrLimit, impl.ErrNotFound, impl.ErrState, impl.ErrSyntax}
	if codes != [...]int64{0, 1, 2, 3, 4, 5, 6} {
		t.Errorf("error codes %v", codes)
	}
	if impl.MaxYear != 2000 || impl.MaxDay != 730499 {
		t.Errorf("limits %d, %d", impl.MaxYear, impl.MaxDay)
	}
}

// TestOldDaysInOrder walks over all days of the old calendar.
func TestOldDaysInOrder(t *testing.T) {
	d := impl.Date{Year: 1, Month: 1, Day: 1}
	for n := int64(0); n <= impl.MaxDay; n++ {
		if got, code := impl.OldDate(n); got != d || code != impl.ErrNone {
			t.Fatalf("OldDate(%d) = %v, %d; want %v", n, got, code, d)
		}
		if got, code := impl.OldDay(d); got != n || code != impl.ErrNone {
			t.Fatalf("OldDay(%v) = %d, %d; want %d", d, got, code, n)
		}
		if !impl.IsOldDate(d) {
			t.Fatalf("IsOldDate(%v) = false", d)
		}
		d = following(d, leapOld)
	}
	if d != (impl.Date{Year: 2001, Month: 1, Day: 1}) {
		t.Errorf("behind the last day comes %v", d)
	}
}

// TestNewDaysInOrder walks over all days that have a date of the new calendar.
func TestNewDaysInOrder(t *testing.T) {
	d := impl.Date{Year: 1, Month: 1, Day: 1}
	for n := int64(firstNewDay); n <= lastNewDay; n++ {
		if got, code := impl.NewDate(n); got != d || code != impl.ErrNone {
			t.Fatalf("NewDate(%d) = %v, %d; want %v", n, got, code, d)
		}
		if got, code := impl.NewDay(d); got != n || code != impl.ErrNone {
			t.Fatalf("NewDay(%v) = %d, %d; want %d", d, got, code, n)
		}
		if !impl.IsNewDate(d) {
			t.Fatalf("IsNewDate(%v) = false", d)
		}
		d = following(d, leapNew)
	}
	if d != (impl.Date{Year: 2001, Month: 1, Day: 1}) {
		t.Errorf("behind the last new date comes %v", d)
	}
}

func TestKnownDays(t *testing.T) {
	for _, c := range []struct {
		n        int64
		old, new impl.Date
		weekday  int64
	}{
		{2, impl.Date{Year: 1, Month: 1, Day: 3}, impl.Date{Year: 1, Month: 1, Day: 1}, 0},
		{433370, impl.Date{Year: 1187, Month: 7, Day: 4}, impl.Date{Year: 1187, Month: 7, Day: 11}, 5},
		{577737, impl.Date{Year: 1582, Month: 10, Day: 5}, impl.Date{Year: 1582, Month: 10, Day: 15}, 4},
		{639798, impl.Date{Year: 1752, Month: 9, Day: 3}, impl.Date{Year: 1752, Month: 9, Day: 14}, 3},
		{693656, impl.Date{Year: 1900, Month: 2, Day: 17}, impl.Date{Year: 1900, Month: 3, Day: 1}, 3},
		{730179, impl.Date{Year: 2000, Month: 2, Day: 15}, impl.Date{Year: 2000, Month: 2, Day: 28}, 0},
		{730180, impl.Date{Year: 2000, Month: 2, Day: 16}, impl.Date{Year: 2000, Month: 2, Day: 29}, 1},
		{730181, impl.Date{Year: 2000, Month: 2, Day: 17}, impl.Date{Year: 2000, Month: 3, Day: 1}, 2},
		{lastNewDay, impl.Date{Year: 2000, Month: 12, Day: 18}, impl.Date{Year: 2000, Month: 12, Day: 31}, 6},
	} {
		if old, code := impl.OldDate(c.n); old != c.old || code != impl.ErrNone {
			t.Errorf("OldDate(%d) = %v, %d", c.n, old, code)
		}
		if n, code := impl.OldDay(c.old); n != c.n || code != impl.ErrNone {
			t.Errorf("OldDay(%v) = %d, %d", c.old, n, code)
		}
		if d, code := impl.NewDate(c.n); d != c.new || code != impl.ErrNone {
			t.Errorf("NewDate(%d) = %v, %d", c.n, d, code)
		}
		if n, code := impl.NewDay(c.new); n != c.n || code != impl.ErrNone {
			t.Errorf("NewDay(%v) = %d, %d", c.new, n, code)
		}
		if w, code := impl.WeekdayOf(c.n); w != c.weekday || code != impl.ErrNone {
			t.Errorf("WeekdayOf(%d) = %d, %d", c.n, w, code)
		}
	}
}

func TestFirstAndLastDay(t *testing.T) {
	if n, code := impl.OldDay(impl.Date{Year: 1, Month: 1, Day: 1}); n != 0 || code != impl.ErrNone {
		t.Errorf("first day: %d, %d", n, code)
	}
	last := impl.Date{Year: 2000, Month: 12, Day: 31}
	if n, code := impl.OldDay(last); n != impl.MaxDay || code != impl.ErrNone {
		t.Errorf("last day: %d, %d", n, code)
	}
	if d, code := impl.OldDate(impl.MaxDay); d != last || code != impl.ErrNone {
		t.Errorf("last date: %v, %d", d, code)
	}
}

// TestDaysWithoutNewDate asks for the days 0 and 1 and the last thirteen, which have an old date only.
func TestDaysWithoutNewDate(t *testing.T) {
	days := []int64{0, 1}
	for n := int64(lastNewDay + 1); n <= impl.MaxDay; n++ {
		days = append(days, n)
	}
	if len(days) != 15 {
		t.Fatalf("%d days", len(days))
	}
	for _, n := range days {
		if d, code := impl.NewDate(n); d != (impl.Date{}) || code != impl.ErrRange {
			t.Errorf("NewDate(%d) = %v, %d", n, d, code)
		}
		if d, code := impl.OldDate(n); d == (impl.Date{}) || code != impl.ErrNone {
			t.Errorf("OldDate(%d) = %v, %d", n, d, code)
		}
		if _, code := impl.WeekdayOf(n); code != impl.ErrNone {
			t.Errorf("WeekdayOf(%d): code %d", n, code)
		}
	}
}

func TestNumbersThatAreNoDays(t *testing.T) {
	for _, n := range append([]int64{impl.MaxDay + 1, impl.MaxDay + 2, impl.MaxDay + 366}, extremes...) {
		if d, code := impl.OldDate(n); d != (impl.Date{}) || code != impl.ErrRange {
			t.Errorf("OldDate(%d) = %v, %d", n, d, code)
		}
		if d, code := impl.NewDate(n); d != (impl.Date{}) || code != impl.ErrRange {
			t.Errorf("NewDate(%d) = %v, %d", n, d, code)
		}
		if w, code := impl.WeekdayOf(n); w != 0 || code != impl.ErrRange {
			t.Errorf("WeekdayOf(%d) = %d, %d", n, w, code)
		}
	}
}

func TestWeekdaysFollowOneAnother(t *testing.T) {
	want := int64(5) // the day 0 is a Saturday
	for n := int64(0); n <= impl.MaxDay; n++ {
		if w, code := impl.WeekdayOf(n); w != want || code != impl.ErrNone {
			t.Fatalf("WeekdayOf(%d) = %d, %d; want %d", n, w, code, want)
		}
		want++
		if want == 7 {
			want = 0
		}
	}
}

func TestLeapDays(t *testing.T) {
	for _, c := range []struct {
		year     int64
		old, new bool
	}{
		{1, false, false}, {3, false, false}, {4, true, true}, {96, true, true}, {100, true, false},
		{200, true, false}, {300, true, false}, {400, true, true}, {800, true, true}, {1187, false, false},
		{1200, true, true}, {1500, true, false}, {1582, false, false}, {1600, true, true}, {1700, true, false},
		{1900, true, false}, {1996, true, true}, {1999, false, false}, {2000, true, true}, {2004, false, false},
	} {
		d := impl.Date{Year: c.year, Month: 2, Day: 29}
		if impl.IsOldDate(d) != c.old || impl.IsNewDate(d) != c.new {
			t.Errorf("%v: old %v, new %v", d, impl.IsOldDate(d), impl.IsNewDate(d))
		}
		checkDate(t, d)
		text := fmt.Sprintf("%04d-02-29", c.year)
		if got, ok := impl.ReadDate(text); ok != (c.old || c.new) || ok && got != d {
			t.Errorf("ReadDate(%q) = %v, %v", text, got, ok)
		}
	}
}

// checkDate compares what every function says of a date with the reference.
func checkDate(t *testing.T, d impl.Date) {
	t.Helper()
	old, new := isDate(d, leapOld), isDate(d, leapNew)
	if impl.IsOldDate(d) != old || impl.IsNewDate(d) != new {
		t.Errorf("%v: IsOldDate %v, IsNewDate %v", d, impl.IsOldDate(d), impl.IsNewDate(d))
	}
	n, code := impl.OldDay(d)
	if back, _ := impl.OldDate(n); old && (code != impl.ErrNone || back != d) || !old && (n != 0 || code != impl.ErrInvalid) {
		t.Errorf("OldDay(%v) = %d, %d", d, n, code)
	}
	n, code = impl.NewDay(d)
	if back, _ := impl.NewDate(n); new && (code != impl.ErrNone || back != d) || !new && (n != 0 || code != impl.ErrInvalid) {
		t.Errorf("NewDay(%v) = %d, %d", d, n, code)
	}
	want := ""
	if old || new {
		want = fmt.Sprintf("%04d-%02d-%02d", d.Year, d.Month, d.Day)
	}
	if text := impl.DateText(d); text != want {
		t.Errorf("DateText(%v) = %q", d, text)
	}
	if want == "" {
		return
	}
	if back, ok := impl.ReadDate(want); back != d || !ok {
		t.Errorf("ReadDate(%q) = %v, %v", want, back, ok)
	}
}

// TestDatesAroundTheLimits has every month from -1 to 14 and every day from -1 to 33 in years of
// each kind, those just outside included: ends of months among them.
func TestDatesAroundTheLimits(t *testing.T) {
	for _, year := range []int64{-4, -1, 0, 1, 2, 3, 4, 5, 99, 100, 101, 400, 1187, 1500, 1582, 1600, 1700, 1752, 1900, 1999, 2000, 2001, 2004, 2400, 9999, 10000} {
		for month := int64(-1); month <= 14; month++ {
			for day := int64(-1); day <= 33; day++ {
				checkDate(t, impl.Date{Year: year, Month: month, Day: day})
			}
		}
	}
}

func TestDatesWithExtremeFields(t *testing.T) {
	values := append([]int64{0, 1, 2, 12, 28, 31, 100, 2000}, extremes...)
	for _, year := range values {
		for _, month := range values {
			for _, day := range values {
				checkDate(t, impl.Date{Year: year, Month: month, Day: day})
			}
		}
	}
}

// TestTextsOfAllDates reads the texts of all combinations, with year, month and day one beyond
// their ranges, and those of all dates are the only ones that are read.
func TestTextsOfAllDates(t *testing.T) {
	for year := int64(0); year <= 2001; year++ {
		for month := int64(0); month <= 13; month++ {
			for day := int64(0); day <= 32; day++ {
				d := impl.Date{Year: year, Month: month, Day: day}
				checkRead(t, fmt.Sprintf("%04d-%02d-%02d", year, month, day), d)
			}
		}
	}
}

// checkRead reads a text that stands for d if d is a date at all, and for nothing otherwise.
func checkRead(t *testing.T, s string, d impl.Date) {
	t.Helper()
	valid := isDate(d, leapOld) || isDate(d, leapNew)
	if !valid {
		d = impl.Date{}
	}
	if got, ok := impl.ReadDate(s); got != d || ok != valid {
		t.Errorf("ReadDate(%q) = %v, %v", s, got, ok)
	}
	if valid && impl.DateText(d) != s {
		t.Errorf("DateText(%v) = %q", d, impl.DateText(d))
	}
}

// TestTextsThatAreNoDates has lengths, signs, blanks and other marks that no text of a date has.
func TestTextsThatAreNoDates(t *testing.T) {
	for _, s := range []string{
		"", "-", "--", "1187", "1187-07", "1187-07-", "1187-07-4", "1187-7-04", "187-07-04", "01187-07-04", "1187-007-04",
		"1187-07-004", "1187-07-04 ", " 1187-07-04", "1187-07-04\n", "1187-07-04-", "1187-07-04-01", "1187-07-04x",
		"+187-07-04", "-187-07-04", "1187-+7-04", "1187--7-04", "1187-07-+4", "1187-07--4", " 187-07-04", "1187- 7-04",
		"1187-07- 4", "1187_07_04", "1187/07/04", "1187-07.04", "1187.07-04", "1187707-04", "1187-07004", "11870704",
		"118-707-04", "1187-0704-", "0x11-07-04", "1_87-07-04", "1e03-07-04", "mccc-07-04", "1187-ju-04", "1187-07-iv",
		"\x00\x00\x00\x00-\x00\x00-\x00\x00", "////-//-//", "::::-::-::", "\uff11\uff11-07-04", "\u0661\u0661-07-04", "1187\u22127-04", "1187-07-\u0664",
		"0000-01-01", "2001-01-01", "9999-12-31", "1187-00-04", "1187-13-04", "1187-07-00", "1187-07-32", "1187-06-31",
		"1187-02-29", "1900-02-30", "2000-02-30", "9223372036854775807-01-01", "18446744073709551617-01-01",
	} {
		if d, ok := impl.ReadDate(s); d != (impl.Date{}) || ok {
			t.Errorf("ReadDate(%q) = %v, %v", s, d, ok)
		}
	}
}

// TestTextsWithOneOtherByte exchanges each byte of a text for each other one; only digits in the
// places of digits may still make a date.
func TestTextsWithOneOtherByte(t *testing.T) {
	const text = "1296-10-21"
	for i := range len(text) {
		for b := 0; b < 256; b++ {
			changed := text[:i] + string([]byte{byte(b)}) + text[i+1:]
			var d impl.Date
			if b >= '0' && b <= '9' && i != 4 && i != 7 || text[i] == byte(b) {
				digit := func(k int) int64 { return int64(changed[k] - '0') }
				d.Year = digit(0)*1000 + digit(1)*100 + digit(2)*10 + digit(3)
				d.Month = digit(5)*10 + digit(6)
				d.Day = digit(8)*10 + digit(9)
			}
			checkRead(t, changed, d)
		}
	}
}

// TestTextsCutAndLengthened leaves out each byte of a text, doubles it, and cuts the text there.
func TestTextsCutAndLengthened(t *testing.T) {
	const text = "1187-07-04"
	for i := range len(text) {
		for _, s := range []string{text[:i] + text[i+1:], text[:i] + text[i:i+1] + text[i:], text[:i], text[i+1:]} {
			if d, ok := impl.ReadDate(s); d != (impl.Date{}) || ok {
				t.Errorf("ReadDate(%q) = %v, %v", s, d, ok)
			}
		}
	}
}

func TestDatesOfOneCalendarHaveATextToo(t *testing.T) {
	d := impl.Date{Year: 1900, Month: 2, Day: 29}
	if text := impl.DateText(d); text != "1900-02-29" {
		t.Errorf("DateText = %q", text)
	}
	if got, ok := impl.ReadDate("1900-02-29"); got != d || !ok {
		t.Errorf("ReadDate = %v, %v", got, ok)
	}
	if n, code := impl.NewDay(d); n != 0 || code != impl.ErrInvalid {
		t.Errorf("NewDay = %d, %d", n, code)
	}
}
