package tests

import (
	"fmt"
	"math/rand"
	"regexp"
	"slices"
	"strconv"
	"strings"
	"testing"

	"loop.example/g01034/impl"
)

// The reference for all tests of sets is a list of bools, one for each of some days from a first one
// on; spansOf is the only way from there to spans.

// spansOf tells the days first+k of all k with in[k] as spans, as the document's sets are told.
func spansOf(first int64, in []bool) []impl.Span {
	var list []impl.Span
	for k := range in {
		if !in[k] {
			continue
		}
		n := first + int64(k)
		if k > 0 && in[k-1] {
			list[len(list)-1].To = n
		} else {
			list = append(list, impl.Span{From: n, To: n})
		}
	}
	return list
}

// bitsOf tells which of the lowest bits of a number are 1.
func bitsOf(mask int, width int) []bool {
	in := make([]bool, width)
	for k := range in {
		in[k] = mask>>k&1 == 1
	}
	return in
}

// subsets tells the sets of all choices of some days from a first one on, by their bits.
func subsets(first int64, width int) [][]impl.Span {
	sets := make([][]impl.Span, 1<<width)
	for mask := range sets {
		sets[mask] = spansOf(first, bitsOf(mask, width))
	}
	return sets
}

// daysOf lists the days of spans one by one.
func daysOf(list []impl.Span) []int64 {
	var days []int64
	for _, s := range list {
		for n := s.From; n <= s.To; n++ {
			days = append(days, n)
		}
	}
	return days
}

// textOf tells the text of a set.
func textOf(list []impl.Span) string {
	if len(list) == 0 {
		return "-"
	}
	var texts []string
	for _, s := range list {
		if s.From == s.To {
			texts = append(texts, fmt.Sprint(s.From))
		} else {
			texts = append(texts, fmt.Sprintf("%d..%d", s.From, s.To))
		}
	}
	return strings.Join(texts, ",")
}

// single tells count spans of one day each, from a first one on, step days apart.
func single(first int64, step int64, count int) []impl.Span {
	var list []impl.Span
	for k := range int64(count) {
		list = append(list, impl.Span{From: first + k*step, To: first + k*step})
	}
	return list
}

// checkSpans compares a result with a set.
func checkSpans(t *testing.T, what string, got []impl.Span, code int64, want []impl.Span) {
	t.Helper()
	if code != impl.ErrNone || !slices.Equal(got, want) {
		t.Errorf("%s = %v, %d; want %v", what, got, code, want)
	}
}

// checkNoSpans compares a result with the zero value beside an error.
func checkNoSpans(t *testing.T, what string, got []impl.Span, code int64, want int64) {
	t.Helper()
	if code != want || len(got) != 0 {
		t.Errorf("%s = %d spans, %d; want none, %d", what, len(got), code, want)
	}
}

// windows are the first days of eight days: the first ones, the last ones, and two others.
var windows = []int64{0, 1, 433370, impl.MaxDay - 7}

// TestDaysOfUnionAndMeetingAreCountedTogether is promise 2, for all pairs of sets of eight days.
func TestDaysOfUnionAndMeetingAreCountedTogether(t *testing.T) {
	for _, first := range windows {
		sets := subsets(first, 8)
		for i, a := range sets {
			for j, b := range sets {
				union, code := impl.UniteSets(a, b)
				checkSpans(t, fmt.Sprintf("UniteSets(%v, %v)", a, b), union, code, sets[i|j])
				both, code := impl.MeetSets(a, b)
				checkSpans(t, fmt.Sprintf("MeetSets(%v, %v)", a, b), both, code, sets[i&j])
				rest, code := impl.WithoutSet(a, b)
				checkSpans(t, fmt.Sprintf("WithoutSet(%v, %v)", a, b), rest, code, sets[i&^j])
				if countOf(t, union)+countOf(t, both) != countOf(t, a)+countOf(t, b) {
					t.Errorf("%v and %v: union %v, meeting %v", a, b, union, both)
				}
				if countOf(t, rest)+countOf(t, both) != countOf(t, a) {
					t.Errorf("%v and %v: meeting %v, rest %v", a, b, both, rest)
				}
			}
		}
	}
}

// countOf tells the number of days of a set.
func countOf(t *testing.T, set []impl.Span) int64 {
	t.Helper()
	count, code := impl.CountDays(set)
	if code != impl.ErrNone {
		t.Errorf("CountDays(%v): code %d", set, code)
	}
	return count
}

// TestEachSetOfFewDays has all that can be asked of one set, for all sets of eight days.
func TestEachSetOfFewDays(t *testing.T) {
	for _, first := range windows {
		for _, set := range subsets(first, 8) {
			checkDays(t, set, first-2, first+10)
			checkText(t, set)
			for by := int64(-10); by <= 10; by++ {
				checkShift(t, set, by)
			}
			for _, by := range []int64{-impl.MaxDay, 1 - impl.MaxDay, -433375, 433375, impl.MaxDay - 1, impl.MaxDay} {
				checkShift(t, set, by)
			}
		}
	}
}

// checkDays compares the days of a set with those that are asked for one by one, the numbers in
// from..to among them.
func checkDays(t *testing.T, set []impl.Span, from int64, to int64) {
	t.Helper()
	days := daysOf(set)
	if !impl.IsSet(set) || countOf(t, set) != int64(len(days)) {
		t.Errorf("%v: IsSet %v, CountDays %d", set, impl.IsSet(set), countOf(t, set))
	}
	for k, day := range days {
		if n, code := impl.NthDay(set, int64(k)); n != day || code != impl.ErrNone {
			t.Errorf("NthDay(%v, %d) = %d, %d; want %d", set, k, n, code, day)
		}
	}
	for _, k := range append([]int64{-2, int64(len(days)), int64(len(days)) + 1}, extremes...) {
		if n, code := impl.NthDay(set, k); n != 0 || code != impl.ErrRange {
			t.Errorf("NthDay(%v, %d) = %d, %d", set, k, n, code)
		}
	}
	for n := from; n <= to; n++ {
		want := int64(impl.ErrNone)
		if n < 0 || n > impl.MaxDay {
			want = impl.ErrRange
		}
		if has, code := impl.HasDay(set, n); has != slices.Contains(days, n) || code != want {
			t.Errorf("HasDay(%v, %d) = %v, %d", set, n, has, code)
		}
	}
	for _, n := range extremes {
		if has, code := impl.HasDay(set, n); has || code != impl.ErrRange {
			t.Errorf("HasDay(%v, %d) = %v, %d", set, n, has, code)
		}
	}
}

// checkText writes and reads the text of a set.
func checkText(t *testing.T, set []impl.Span) {
	t.Helper()
	want := textOf(set)
	if text, code := impl.SetText(set); text != want || code != impl.ErrNone {
		t.Errorf("SetText(%v) = %q, %d", set, text, code)
	}
	got, code := impl.ReadSet(want)
	checkSpans(t, fmt.Sprintf("ReadSet(%q)", want), got, code, set)
}

// checkShift shifts a set day by day.
func checkShift(t *testing.T, set []impl.Span, by int64) {
	t.Helper()
	var want []impl.Span
	for _, n := range daysOf(set) {
		n += by
		if n < 0 || n > impl.MaxDay {
			continue
		}
		if len(want) > 0 && want[len(want)-1].To == n-1 {
			want[len(want)-1].To = n
		} else {
			want = append(want, impl.Span{From: n, To: n})
		}
	}
	got, code := impl.ShiftSet(set, by)
	checkSpans(t, fmt.Sprintf("ShiftSet(%v, %d)", set, by), got, code, want)
}

// TestListsThatAreNoSets has all lists of up to three spans of a few numbers, some of which are no
// days; only those that tell their days as spansOf does are sets, and all others are invalid.
func TestListsThatAreNoSets(t *testing.T) {
	for _, first := range []int64{-1, impl.MaxDay - 4} {
		for _, list := range shortLists(first, 6) {
			checkIsSet(t, list)
		}
	}
}

// shortLists tells all lists of up to three spans, with numbers from a first one on, of which From
// may be greater than To.
func shortLists(first int64, numbers int64) [][]impl.Span {
	var spans []impl.Span
	for from := range numbers {
		for to := range numbers {
			spans = append(spans, impl.Span{From: first + from, To: first + to})
		}
	}
	lists := [][]impl.Span{nil}
	for _, s := range spans {
		lists = append(lists, []impl.Span{s})
		for _, u := range spans {
			lists = append(lists, []impl.Span{s, u})
			for _, v := range spans {
				lists = append(lists, []impl.Span{s, u, v})
			}
		}
	}
	return lists
}

// checkIsSet compares a list with the set of its days.
func checkIsSet(t *testing.T, list []impl.Span) {
	t.Helper()
	want := slices.Equal(list, joinedDays(list))
	if impl.IsSet(list) != want {
		t.Errorf("IsSet(%v) = %v", list, !want)
	}
	code := int64(impl.ErrNone)
	if !want {
		code = impl.ErrInvalid
	}
	if _, got := impl.CountDays(list); got != code {
		t.Errorf("CountDays(%v): code %d", list, got)
	}
}

// joinedDays tells all days of spans in any order as a set, and nil, which is no list of spans, if
// one of them has a number that is no day or none at all.
func joinedDays(list []impl.Span) []impl.Span {
	var days []int64
	for _, s := range list {
		if s.From < 0 || s.To > impl.MaxDay || s.From > s.To {
			return nil
		}
		days = append(days, daysOf([]impl.Span{s})...)
	}
	if len(days) == 0 {
		return nil
	}
	first := slices.Min(days)
	in := make([]bool, slices.Max(days)-first+1)
	for _, n := range days {
		in[n-first] = true
	}
	return spansOf(first, in)
}

// TestMakeSetOfFewSpans has all lists of up to three spans of a few numbers: in any order, touching,
// overlapping, within one another, one day apart, and some that are no spans of days.
func TestMakeSetOfFewSpans(t *testing.T) {
	for _, first := range []int64{-1, 1, impl.MaxDay - 5} {
		for _, list := range shortLists(first, 7) {
			checkMake(t, list)
		}
	}
}

// checkMake compares the set that is made of spans with that of their days.
func checkMake(t *testing.T, spans []impl.Span) {
	t.Helper()
	got, code := impl.MakeSet(spans)
	what := fmt.Sprintf("MakeSet(%v)", spans)
	want := joinedDays(spans)
	if want == nil && len(spans) > 0 {
		checkNoSpans(t, what, got, code, impl.ErrRange)
	} else {
		checkSpans(t, what, got, code, want)
	}
}

// TestSpansTouchingAndApart has the cases that the document names one by one.
func TestSpansTouchingAndApart(t *testing.T) {
	for _, c := range []struct{ a, b, union, both, rest string }{
		{"-", "-", "-", "-", "-"},
		{"-", "0..730499", "0..730499", "-", "-"},
		{"0..730499", "-", "0..730499", "-", "0..730499"},
		{"0..730499", "0..730499", "0..730499", "0..730499", "-"},
		{"0", "730499", "0,730499", "-", "0"},
		{"0..730499", "0,730499", "0..730499", "0,730499", "1..730498"},
		{"0..730499", "1..730498", "0..730499", "1..730498", "0,730499"},
		{"5..9", "10..12", "5..12", "-", "5..9"},
		{"5..9", "11..12", "5..9,11..12", "-", "5..9"},
		{"5..9", "9..12", "5..12", "9", "5..8"},
		{"5..12", "7..9", "5..12", "7..9", "5..6,10..12"},
		{"7..9", "5..12", "5..12", "7..9", "-"},
		{"5,7,9", "6,8", "5..9", "-", "5,7,9"},
		{"5,7,9", "5..9", "5..9", "5,7,9", "-"},
		{"5..9", "5,7,9", "5..9", "5,7,9", "6,8"},
		{"1..4,6..9", "5", "1..9", "-", "1..4,6..9"},
		{"1..4,6..9", "4..6", "1..9", "4,6", "1..3,7..9"},
	} {
		a, _ := impl.ReadSet(c.a)
		b, _ := impl.ReadSet(c.b)
		union, code := impl.UniteSets(a, b)
		if textOf(union) != c.union || code != impl.ErrNone {
			t.Errorf("UniteSets(%s, %s) = %v, %d", c.a, c.b, union, code)
		}
		both, code := impl.MeetSets(a, b)
		if textOf(both) != c.both || code != impl.ErrNone {
			t.Errorf("MeetSets(%s, %s) = %v, %d", c.a, c.b, both, code)
		}
		rest, code := impl.WithoutSet(a, b)
		if textOf(rest) != c.rest || code != impl.ErrNone {
			t.Errorf("WithoutSet(%s, %s) = %v, %d", c.a, c.b, rest, code)
		}
	}
}

func TestEmptySetAsNilAndAsList(t *testing.T) {
	some := []impl.Span{{From: 3, To: 5}}
	for _, empty := range [][]impl.Span{nil, {}} {
		checkDays(t, empty, -3, 8)
		checkText(t, empty)
		checkShift(t, empty, 5)
		got, code := impl.MakeSet(empty)
		checkSpans(t, "MakeSet", got, code, nil)
		for _, other := range [][]impl.Span{nil, {}} {
			got, code = impl.UniteSets(empty, other)
			checkSpans(t, "UniteSets", got, code, nil)
			got, code = impl.MeetSets(empty, other)
			checkSpans(t, "MeetSets", got, code, nil)
			got, code = impl.WithoutSet(empty, other)
			checkSpans(t, "WithoutSet", got, code, nil)
		}
		got, code = impl.UniteSets(empty, some)
		checkSpans(t, "UniteSets", got, code, some)
		got, code = impl.UniteSets(some, empty)
		checkSpans(t, "UniteSets", got, code, some)
		got, code = impl.MeetSets(some, empty)
		checkSpans(t, "MeetSets", got, code, nil)
		got, code = impl.WithoutSet(some, empty)
		checkSpans(t, "WithoutSet", got, code, some)
		got, code = impl.WithoutSet(empty, some)
		checkSpans(t, "WithoutSet", got, code, nil)
	}
}

// TestFirstAndLastDayOfSets asks for the days at both ends of the set of all days.
func TestFirstAndLastDayOfSets(t *testing.T) {
	all := []impl.Span{{From: 0, To: impl.MaxDay}}
	if count := countOf(t, all); count != impl.MaxDay+1 {
		t.Errorf("CountDays = %d", count)
	}
	for _, n := range []int64{0, 1, impl.MaxDay - 1, impl.MaxDay} {
		if got, code := impl.NthDay(all, n); got != n || code != impl.ErrNone {
			t.Errorf("NthDay(%d) = %d, %d", n, got, code)
		}
		if has, code := impl.HasDay(all, n); !has || code != impl.ErrNone {
			t.Errorf("HasDay(%d) = %v, %d", n, has, code)
		}
	}
	if got, code := impl.NthDay(all, impl.MaxDay+1); got != 0 || code != impl.ErrRange {
		t.Errorf("NthDay = %d, %d", got, code)
	}
	checkText(t, all)
	for _, c := range []struct {
		by   int64
		want impl.Span
	}{
		{0, impl.Span{From: 0, To: impl.MaxDay}}, {1, impl.Span{From: 1, To: impl.MaxDay}}, {-1, impl.Span{From: 0, To: impl.MaxDay - 1}},
		{impl.MaxDay, impl.Span{From: impl.MaxDay, To: impl.MaxDay}}, {-impl.MaxDay, impl.Span{From: 0, To: 0}},
	} {
		got, code := impl.ShiftSet(all, c.by)
		checkSpans(t, fmt.Sprintf("ShiftSet(%d)", c.by), got, code, []impl.Span{c.want})
	}
	for _, by := range []int64{impl.MaxDay + 1, -impl.MaxDay - 1} {
		got, code := impl.ShiftSet(all, by)
		checkNoSpans(t, "ShiftSet", got, code, impl.ErrRange)
	}
	for _, by := range extremes {
		if by == -1000 || by == -1 {
			continue // These are no days, but a set can be shifted by them.
		}
		got, code := impl.ShiftSet(nil, by)
		checkNoSpans(t, "ShiftSet", got, code, impl.ErrRange)
	}
}

// TestResultsOfMostSpans has results of exactly 300 spans and of one more.
func TestResultsOfMostSpans(t *testing.T) {
	all := []impl.Span{{From: 0, To: impl.MaxDay}}
	most := single(0, 2, 300)

	got, code := impl.MakeSet(most)
	checkSpans(t, "MakeSet of 300", got, code, most)
	got, code = impl.MakeSet(single(0, 2, 301))
	checkNoSpans(t, "MakeSet of 301", got, code, impl.ErrLimit)

	got, code = impl.UniteSets(single(0, 4, 150), single(2, 4, 150))
	checkSpans(t, "UniteSets to 300", got, code, most)
	got, code = impl.UniteSets(single(0, 4, 150), single(2, 4, 151))
	checkNoSpans(t, "UniteSets to 301", got, code, impl.ErrLimit)
	got, code = impl.UniteSets(most, single(1, 2, 299))
	checkSpans(t, "UniteSets to one", got, code, []impl.Span{{From: 0, To: 598}})
	got, code = impl.UniteSets(most, single(10000, 2, 300))
	checkNoSpans(t, "UniteSets to 600", got, code, impl.ErrLimit)

	got, code = impl.MeetSets(all, most)
	checkSpans(t, "MeetSets to 300", got, code, most)
	long, bridges := []impl.Span{}, []impl.Span{}
	for k := range int64(300) {
		long = append(long, impl.Span{From: 10 * k, To: 10*k + 6})
		bridges = append(bridges, impl.Span{From: 10*k + 6, To: 10*k + 10})
	}
	got, code = impl.MeetSets(long, bridges[:150])
	checkSpans(t, "MeetSets over bridges", got, code, joinedDays(append(single(6, 10, 150), single(10, 10, 150)...)))
	got, code = impl.MeetSets(long, append(bridges[:150:150], impl.Span{From: 1506, To: 1508}))
	checkNoSpans(t, "MeetSets to 301", got, code, impl.ErrLimit)
	got, code = impl.MeetSets(long, bridges)
	checkNoSpans(t, "MeetSets to 599", got, code, impl.ErrLimit)

	got, code = impl.WithoutSet(all, single(1, 2, 299))
	checkSpans(t, "WithoutSet to 300", got, code, append(single(0, 2, 299), impl.Span{From: 598, To: impl.MaxDay}))
	got, code = impl.WithoutSet(all, single(0, 2, 300))
	checkSpans(t, "WithoutSet to 300", got, code, append(single(1, 2, 299), impl.Span{From: 599, To: impl.MaxDay}))
	got, code = impl.WithoutSet(all, single(1, 2, 300))
	checkNoSpans(t, "WithoutSet to 301", got, code, impl.ErrLimit)
	got, code = impl.WithoutSet(long, single(3, 10, 300))
	checkNoSpans(t, "WithoutSet to 600", got, code, impl.ErrLimit)

	got, code = impl.ShiftSet(most, 1)
	checkSpans(t, "ShiftSet of 300", got, code, single(1, 2, 300))
	checkDays(t, most, -1, 601)
	checkText(t, most)
	text := textOf(single(0, 2, 301))
	got, code = impl.ReadSet(text)
	checkNoSpans(t, "ReadSet of 301", got, code, impl.ErrSyntax)
	got, code = impl.ReadSet(strings.Repeat("7,", 100000) + "7")
	checkNoSpans(t, "ReadSet of many", got, code, impl.ErrSyntax)
}

// TestMostSpansOfMakeSet has 1000 spans and one more.
func TestMostSpansOfMakeSet(t *testing.T) {
	touching := single(5, 1, 1000)
	got, code := impl.MakeSet(touching)
	checkSpans(t, "MakeSet of 1000", got, code, []impl.Span{{From: 5, To: 1004}})
	slices.Reverse(touching)
	got, code = impl.MakeSet(touching)
	checkSpans(t, "MakeSet of 1000", got, code, []impl.Span{{From: 5, To: 1004}})
	got, code = impl.MakeSet(append(touching, impl.Span{From: 5, To: 5}))
	checkNoSpans(t, "MakeSet of 1001", got, code, impl.ErrRange)
	same := make([]impl.Span, 1000)
	got, code = impl.MakeSet(same)
	checkSpans(t, "MakeSet of one span", got, code, make([]impl.Span, 1))
	got, code = impl.MakeSet(make([]impl.Span, 1001))
	checkNoSpans(t, "MakeSet of 1001", got, code, impl.ErrRange)
	got, code = impl.MakeSet(single(0, 2, 1000))
	checkNoSpans(t, "MakeSet of 1000 apart", got, code, impl.ErrLimit)
	got, code = impl.MakeSet(single(0, 2, 1001))
	checkNoSpans(t, "MakeSet of 1001 apart", got, code, impl.ErrRange)
	for _, bad := range []impl.Span{{From: -1, To: 5}, {From: 5, To: 4}, {From: 5, To: impl.MaxDay + 1}} {
		got, code = impl.MakeSet(append(single(0, 2, 400), bad))
		checkNoSpans(t, "MakeSet of 401 with a bad one", got, code, impl.ErrRange)
	}
}

// invalid tells lists that are no sets.
func invalid() [][]impl.Span {
	lists := [][]impl.Span{
		{{From: 6, To: 5}}, {{From: -1, To: 5}}, {{From: 5, To: impl.MaxDay + 1}}, {{From: -2, To: -1}},
		{{From: 5, To: 6}, {From: 7, To: 8}}, {{From: 5, To: 6}, {From: 6, To: 8}}, {{From: 5, To: 9}, {From: 6, To: 8}},
		{{From: 5, To: 6}, {From: 5, To: 6}}, {{From: 7, To: 8}, {From: 1, To: 2}}, {{From: 1, To: 2}, {From: 5, To: 4}},
		{{}, {}}, single(0, 2, 301), single(0, 2, 302), make([]impl.Span, 400),
	}
	for _, n := range extremes {
		lists = append(lists, []impl.Span{{From: n, To: n}}, []impl.Span{{From: 1, To: 2}, {From: 4, To: n}}, []impl.Span{{From: 1, To: 2}, {From: n, To: 8}},
			[]impl.Span{{From: 1, To: n}, {From: n, To: 8}}, []impl.Span{{From: n, To: 3}, {From: 5, To: 8}})
	}
	return lists
}

// TestInvalidSets has lists that are no sets as each argument, beside others that are wrong, too.
func TestInvalidSets(t *testing.T) {
	valid := [][]impl.Span{nil, {{From: 1, To: 3}}, single(1000, 2, 300)}
	for _, list := range invalid() {
		if impl.IsSet(list) {
			t.Errorf("IsSet(%v)", list)
		}
		if count, code := impl.CountDays(list); count != 0 || code != impl.ErrInvalid {
			t.Errorf("CountDays(%v) = %d, %d", list, count, code)
		}
		if text, code := impl.SetText(list); text != "" || code != impl.ErrInvalid {
			t.Errorf("SetText(%v) = %q, %d", list, text, code)
		}
		for _, n := range append([]int64{0, 1, 5, impl.MaxDay, impl.MaxDay + 1}, extremes...) {
			if has, code := impl.HasDay(list, n); has || code != impl.ErrInvalid {
				t.Errorf("HasDay(%v, %d) = %v, %d", list, n, has, code)
			}
			if day, code := impl.NthDay(list, n); day != 0 || code != impl.ErrInvalid {
				t.Errorf("NthDay(%v, %d) = %d, %d", list, n, day, code)
			}
			got, code := impl.ShiftSet(list, n)
			checkNoSpans(t, "ShiftSet", got, code, impl.ErrInvalid)
		}
		for _, other := range append(valid, list) {
			for _, pair := range [][2][]impl.Span{{list, other}, {other, list}} {
				got, code := impl.UniteSets(pair[0], pair[1])
				checkNoSpans(t, "UniteSets", got, code, impl.ErrInvalid)
				got, code = impl.MeetSets(pair[0], pair[1])
				checkNoSpans(t, "MeetSets", got, code, impl.ErrInvalid)
				got, code = impl.WithoutSet(pair[0], pair[1])
				checkNoSpans(t, "WithoutSet", got, code, impl.ErrInvalid)
			}
		}
	}
}

// TestMakeSetWithExtremeNumbers has a span that is none between two that are.
func TestMakeSetWithExtremeNumbers(t *testing.T) {
	for _, n := range append([]int64{impl.MaxDay + 1}, extremes...) {
		for _, s := range []impl.Span{{From: n, To: n}, {From: n, To: 5}, {From: 5, To: n}, {From: 0, To: n}, {From: n, To: impl.MaxDay}, {From: n, To: -n}} {
			got, code := impl.MakeSet([]impl.Span{{From: 5, To: 9}, s, {From: 1, To: 2}})
			checkNoSpans(t, fmt.Sprintf("MakeSet with %v", s), got, code, impl.ErrRange)
		}
	}
}

// TestTextsOfSets reads all short texts of some bytes; those of the reference's form are read, and
// no others.
func TestTextsOfSets(t *testing.T) {
	form := regexp.MustCompile(`^(0|[1-9][0-9]*)(\.\.(0|[1-9][0-9]*))?(,(0|[1-9][0-9]*)(\.\.(0|[1-9][0-9]*))?)*$`)
	read := 0
	for _, s := range textsOf("0137.,-", 7) {
		want, ok := []impl.Span(nil), s == "-"
		if form.MatchString(s) {
			want, ok = readForm(s)
		}
		got, code := impl.ReadSet(s)
		if !ok {
			checkNoSpans(t, fmt.Sprintf("ReadSet(%q)", s), got, code, impl.ErrSyntax)
			continue
		}
		read++
		checkSpans(t, fmt.Sprintf("ReadSet(%q)", s), got, code, want)
		if text, code := impl.SetText(got); text != s || code != impl.ErrNone {
			t.Errorf("SetText of ReadSet(%q) = %q, %d", s, text, code)
		}
	}
	if read < 1000 {
		t.Errorf("only %d texts were read", read)
	}
}

// textsOf tells all texts of the bytes of an alphabet, up to a length.
func textsOf(alphabet string, most int) []string {
	texts := []string{""}
	longest := texts
	for range most {
		var longer []string
		for _, s := range longest {
			for i := range len(alphabet) {
				longer = append(longer, s+alphabet[i:i+1])
			}
		}
		texts = append(texts, longer...)
		longest = longer
	}
	return texts
}

// readForm reads a text of the form of a set, and tells whether it is one.
func readForm(s string) ([]impl.Span, bool) {
	var list []impl.Span
	for _, part := range strings.Split(s, ",") {
		numbers := strings.Split(part, "..")
		from, _ := strconv.ParseInt(numbers[0], 10, 64)
		to := from
		if len(numbers) == 2 {
			to, _ = strconv.ParseInt(numbers[1], 10, 64)
			if to == from {
				return nil, false
			}
		}
		if from > to || to > impl.MaxDay || len(list) > 0 && from < list[len(list)-1].To+2 {
			return nil, false
		}
		list = append(list, impl.Span{From: from, To: to})
	}
	return list, true
}

func TestTextsThatAreNoSets(t *testing.T) {
	for _, s := range []string{
		"", " ", "-,-", "--", "-5", "-,5", "5,-", "\u2212", "5-7", "+5", "5..+7", "5.. 7", "5 ..7", "5, 9", " 5", "5 ", "5\n", "\n5", "5\x00",
		"5,6", "5,5", "6,5", "7..7", "7..5", "5..7,7", "5..7,8", "5..9,6..7", "5,", ",5", "5,,9", "5...9", "5..", "..9", "..", "5.9", "5..7..9",
		"5..,9", "05", "00", "5..09", "00..5", "0x5", "5e1", "1_000", "730500", "5..730500", "730499..730500", "0..730500", "1000000",
		"9223372036854775807", "9223372036854775808", "18446744073709551616", "18446744073709551621", "36893488147419103232", "5..18446744073709551625",
		"-9223372036854775808", "340282366920938463463374607431768211461", "\uff11", "\u0665", "5;9", "5,a", "v", "v..x", "[5]", "{5 9}",
		strings.Repeat("9", 100000), strings.Repeat("0", 100000) + "5", strings.Repeat(",", 100000), strings.Repeat(".", 100000),
	} {
		got, code := impl.ReadSet(s)
		checkNoSpans(t, fmt.Sprintf("ReadSet(%.40q)", s), got, code, impl.ErrSyntax)
	}
	for _, s := range []string{"0", "730499", "0..730499", "0,2", "0..1,3..4", "730497,730499", "9..10", "99..100,102..730499"} {
		want, ok := readForm(s)
		got, code := impl.ReadSet(s)
		checkSpans(t, fmt.Sprintf("ReadSet(%q)", s), got, code, want)
		if !ok {
			t.Errorf("the reference does not read %q", s)
		}
	}
}

// TestLargeSets compares sets of many spans with the reference, with results up to and beyond the
// greatest number of spans.
func TestLargeSets(t *testing.T) {
	random := rand.New(rand.NewSource(2))
	beyond := 0
	for round := range 300 {
		width := 200 + random.Intn(1200)
		first := random.Int63n(impl.MaxDay - int64(width))
		a, b := randomDays(random, width), randomDays(random, width)
		union, both, rest := make([]bool, width), make([]bool, width), make([]bool, width)
		for k := range width {
			union[k], both[k], rest[k] = a[k] || b[k], a[k] && b[k], a[k] && !b[k]
		}
		setA, setB := spansOf(first, a), spansOf(first, b)
		for _, c := range []struct {
			what string
			do   func([]impl.Span, []impl.Span) ([]impl.Span, int64)
			in   []bool
		}{{"UniteSets", impl.UniteSets, union}, {"MeetSets", impl.MeetSets, both}, {"WithoutSet", impl.WithoutSet, rest}} {
			got, code := c.do(setA, setB)
			want := spansOf(first, c.in)
			if len(want) > impl.MaxSpans {
				beyond++
				checkNoSpans(t, c.what, got, code, impl.ErrLimit)
			} else {
				checkSpans(t, c.what, got, code, want)
			}
		}
		if round%30 == 0 {
			checkDays(t, setA, first-1, first+int64(width))
			checkText(t, setA)
			checkShift(t, setA, random.Int63n(2*impl.MaxDay)-impl.MaxDay)
		}
	}
	if beyond == 0 {
		t.Error("no result was beyond the limit")
	}
}

// randomDays tells days in runs of some lengths, of at most 300 spans.
func randomDays(random *rand.Rand, width int) []bool {
	in := make([]bool, width)
	length := 1 + random.Intn(6)
	spans := 0
	for k := 0; k < width && spans < impl.MaxSpans; spans++ {
		k += random.Intn(length)
		for range 1 + random.Intn(length) {
			if k < width {
				in[k] = true
				k++
			}
		}
		k++
	}
	return in
}

// TestMakeSetOfManySpans makes sets of many spans in any order.
func TestMakeSetOfManySpans(t *testing.T) {
	random := rand.New(rand.NewSource(3))
	for range 200 {
		spans := make([]impl.Span, random.Intn(1001))
		width := 500 + random.Int63n(5000)
		for i := range spans {
			from := random.Int63n(width)
			spans[i] = impl.Span{From: from, To: from + random.Int63n(4)}
		}
		want := joinedDays(spans)
		got, code := impl.MakeSet(spans)
		if len(want) > impl.MaxSpans {
			checkNoSpans(t, "MakeSet", got, code, impl.ErrLimit)
		} else {
			checkSpans(t, "MakeSet", got, code, want)
		}
	}
}

// guard keeps a list with spare capacity behind it, and what both held at first.
type guard struct {
	list  []impl.Span
	whole []impl.Span
	first []impl.Span
}

func guarded(list []impl.Span) *guard {
	whole := slices.Clone(list)
	for k := range int64(5) {
		whole = append(whole, impl.Span{From: -7 - k, To: 99 + k})
	}
	return &guard{list: whole[:len(list)], whole: whole, first: slices.Clone(whole)}
}

// check tells whether something was written into the list or behind it.
func (g *guard) check(t *testing.T, what string) {
	t.Helper()
	if !slices.Equal(g.whole, g.first) {
		t.Errorf("%s: %v has become %v", what, g.first, g.whole)
	}
}

// spoil writes into all memory of a result, spare capacity included.
func spoil(got []impl.Span) {
	got = got[:cap(got)]
	for i := range got {
		got[i] = impl.Span{From: -1, To: -1}
	}
}

// TestArgumentsAreNotWrittenTo calls each function with lists that have spare capacity, then writes
// into all of its result: the lists must stay as they were, and the next result must be the same.
func TestArgumentsAreNotWrittenTo(t *testing.T) {
	sets := [][]impl.Span{{}, {{From: 5, To: 9}}, {{From: 0, To: 3}, {From: 5, To: 9}, {From: 20, To: 30}}, {{From: 4, To: 12}, {From: 14, To: impl.MaxDay}}, single(0, 2, 300)}
	for _, first := range sets {
		for _, second := range sets {
			a, b := guarded(first), guarded(second)
			for what, call := range map[string]func() ([]impl.Span, int64){
				"UniteSets":   func() ([]impl.Span, int64) { return impl.UniteSets(a.list, b.list) },
				"UniteSets 2": func() ([]impl.Span, int64) { return impl.UniteSets(a.list, a.list) },
				"MeetSets":    func() ([]impl.Span, int64) { return impl.MeetSets(a.list, b.list) },
				"MeetSets 2":  func() ([]impl.Span, int64) { return impl.MeetSets(a.list, a.list) },
				"WithoutSet":  func() ([]impl.Span, int64) { return impl.WithoutSet(a.list, b.list) },
				"ShiftSet":    func() ([]impl.Span, int64) { return impl.ShiftSet(a.list, int64(len(second))-1) },
				"ShiftSet 0":  func() ([]impl.Span, int64) { return impl.ShiftSet(a.list, 0) },
				"MakeSet":     func() ([]impl.Span, int64) { return impl.MakeSet(a.list) },
			} {
				got, code := call()
				want := slices.Clone(got)
				spoil(got)
				again, codeAgain := call()
				if !slices.Equal(again, want) || code != codeAgain {
					t.Errorf("%s(%v, %v) = %v, then %v", what, first, second, want, again)
				}
				a.check(t, what)
				b.check(t, what)
			}
		}
		checkArguments(t, first)
	}
	loose := guarded([]impl.Span{{From: 20, To: 30}, {From: 5, To: 9}, {From: 10, To: 12}, {From: 25, To: 40}, {From: 6, To: 7}})
	got, code := impl.MakeSet(loose.list)
	checkSpans(t, "MakeSet", got, code, []impl.Span{{From: 5, To: 12}, {From: 20, To: 40}})
	spoil(got)
	loose.check(t, "MakeSet")
}

// checkArguments calls the functions that return no set.
func checkArguments(t *testing.T, set []impl.Span) {
	t.Helper()
	g := guarded(set)
	impl.IsSet(g.list)
	impl.CountDays(g.list)
	impl.HasDay(g.list, 7)
	impl.NthDay(g.list, 3)
	impl.SetText(g.list)
	g.check(t, "a function that returns no set")
}

// TestListsThatShareMemory has two arguments of which one is a part of the other one.
func TestListsThatShareMemory(t *testing.T) {
	g := guarded([]impl.Span{{From: 1, To: 4}, {From: 6, To: 9}, {From: 11, To: 14}, {From: 16, To: 19}})
	a, b := g.list[:3], g.list[1:]
	got, code := impl.UniteSets(a, b)
	checkSpans(t, "UniteSets", got, code, g.first[:4])
	got, code = impl.MeetSets(a, b)
	checkSpans(t, "MeetSets", got, code, g.first[1:3])
	got, code = impl.WithoutSet(a, b)
	checkSpans(t, "WithoutSet", got, code, g.first[:1])
	g.check(t, "lists that share memory")
}

// TestReadSetGivesNewMemory reads one text twice.
func TestReadSetGivesNewMemory(t *testing.T) {
	first, _ := impl.ReadSet("5..9,12")
	spoil(first)
	second, code := impl.ReadSet("5..9,12")
	checkSpans(t, "ReadSet", second, code, []impl.Span{{From: 5, To: 9}, {From: 12, To: 12}})
}
