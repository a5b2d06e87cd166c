package tests

import (
	"fmt"
	"maps"
	"math/rand"
	"slices"
	"strconv"
	"strings"
	"sync"
	"testing"

	"loop.example/g01034/impl"
)

// numeralLetters are the letters of numerals.
const numeralLetters = "ijuvxlcdm"

// The letters for the digits in the usual and in the old form, by the places from the hundreds to the
// units, as the document tells them. The last i of an old form is a j.
var (
	usualDigits = [3][10]string{
		{"", "c", "cc", "ccc", "cd", "d", "dc", "dcc", "dccc", "cm"},
		{"", "x", "xx", "xxx", "xl", "l", "lx", "lxx", "lxxx", "xc"},
		{"", "i", "ii", "iii", "iv", "v", "vi", "vii", "viii", "ix"},
	}
	oldDigits = [3][10]string{
		{"", "c", "cc", "ccc", "cccc", "d", "dc", "dcc", "dccc", "dcccc"},
		{"", "x", "xx", "xxx", "xxxx", "l", "lx", "lxx", "lxxx", "lxxxx"},
		{"", "j", "ij", "iij", "iiij", "u", "uj", "uij", "uiij", "uiiij"},
	}
)

// knownWords are the words for the numbers from 1 on.
var knownWords = []string{
	"first", "second", "third", "fourth", "fifth", "sixth", "seventh", "eighth", "ninth", "tenth",
	"eleventh", "twelfth", "thirteenth", "fourteenth", "fifteenth", "sixteenth", "seventeenth", "eighteenth", "nineteenth", "twentieth",
	"twenty-first", "twenty-second", "twenty-third", "twenty-fourth", "twenty-fifth", "twenty-sixth", "twenty-seventh", "twenty-eighth", "twenty-ninth", "thirtieth",
	"thirty-first",
}

// numerals holds the forms of all numbers and all words that are made of them. It is the reference for all
// tests of numerals.
type numerals struct {
	usual, old [4000]string
	words      [4000][]string
	numbers    map[string]int64
}

var numeralWords = sync.OnceValue(func() *numerals {
	w := &numerals{numbers: map[string]int64{}}
	for n := int64(1); n < 4000; n++ {
		w.usual[n] = formOf(n, &usualDigits)
		w.old[n] = formOf(n, &oldDigits)
		w.words[n] = append(spellingsOf(w.usual[n]), spellingsOf(w.old[n])...)
		slices.Sort(w.words[n])
		w.words[n] = slices.Compact(w.words[n])
		for _, s := range w.words[n] {
			w.numbers[s] = n
		}
	}
	return w
})

// formOf puts together the letters for the digits of a number.
func formOf(n int64, digits *[3][10]string) string {
	s := fmt.Sprintf("%04d", n)
	form := strings.Repeat("m", int(s[0]-'0'))
	for i := range 3 {
		form += digits[i][s[i+1]-'0']
	}
	return form
}

// spellingsOf lists the words that are made of a form by writing u and v, and a last i and j, for one another.
func spellingsOf(form string) []string {
	words := []string{""}
	for i := range len(form) {
		letters := form[i : i+1]
		if strings.Contains("uv", letters) {
			letters = "uv"
		} else if i == len(form)-1 && strings.Contains("ij", letters) {
			letters = "ij"
		}
		var longer []string
		for _, s := range words {
			for j := range len(letters) {
				longer = append(longer, s+letters[j:j+1])
			}
		}
		words = longer
	}
	return words
}

// countedLetters tells what the letters of a word count together, and whether each may be where it is.
func countedLetters(s string) (int64, bool) {
	counts := map[byte]int64{'i': 1, 'j': 1, 'u': 5, 'v': 5, 'x': 10, 'l': 50, 'c': 100, 'd': 500, 'm': 1000}
	sum := int64(0)
	for i := range len(s) {
		count, found := counts[s[i]]
		if !found || s[i] == 'j' && i < len(s)-1 {
			return 0, false
		}
		if i+1 < len(s) && counts[s[i+1]] > count {
			count = -count
		}
		sum += count
	}
	return sum, true
}

// readNumeral tells what ReadNumeral has to return.
func readNumeral(s string) (int64, bool) {
	n, found := numeralWords().numbers[s]
	return n, found
}

// readNumber tells what ReadNumber has to return.
func readNumber(s string) (int64, bool) {
	for n := int64(1); n < 4000 && len(s) < 5; n++ {
		if strconv.FormatInt(n, 10) == s {
			return n, true
		}
	}
	return readNumeral(s)
}

func checkReadNumeral(t *testing.T, s string) {
	t.Helper()
	want, wantRead := readNumeral(s)
	if n, read := impl.ReadNumeral(s); n != want || read != wantRead {
		t.Errorf("ReadNumeral(%q) = %d, %v; want %d, %v", s, n, read, want, wantRead)
	}
}

func checkReadNumber(t *testing.T, s string) {
	t.Helper()
	want, wantRead := readNumber(s)
	if n, read := impl.ReadNumber(s); n != want || read != wantRead {
		t.Errorf("ReadNumber(%q) = %d, %v; want %d, %v", s, n, read, want, wantRead)
	}
}

// checkNoNumeral checks that a word is read neither as a numeral nor as a number.
func checkNoNumeral(t *testing.T, s string) {
	t.Helper()
	if n, read := impl.ReadNumeral(s); n != 0 || read {
		t.Errorf("ReadNumeral(%q) = %d, %v", s, n, read)
	}
	if n, read := impl.ReadNumber(s); n != 0 || read {
		t.Errorf("ReadNumber(%q) = %d, %v", s, n, read)
	}
}

// checkForms compares the functions of a number.
func checkForms(t *testing.T, n int64) {
	t.Helper()
	usual, old, count, wantCode := "", "", int64(0), int64(impl.ErrRange)
	if n >= 1 && n <= 3999 {
		w := numeralWords()
		usual, old, count, wantCode = w.usual[n], w.old[n], int64(len(w.words[n])), impl.ErrNone
	}
	if s := impl.NumeralText(n); s != usual {
		t.Errorf("NumeralText(%d) = %q; want %q", n, s, usual)
	}
	if s := impl.OldNumeral(n); s != old {
		t.Errorf("OldNumeral(%d) = %q; want %q", n, s, old)
	}
	if k, code := impl.CountForms(n); k != count || code != wantCode {
		t.Errorf("CountForms(%d) = %d, %d; want %d, %d", n, k, code, count, wantCode)
	}
}

func checkOrdinal(t *testing.T, n int64) {
	t.Helper()
	want := ""
	if n >= 1 && n <= 31 {
		want = knownWords[n-1]
	}
	if s := impl.OrdinalText(n); s != want {
		t.Errorf("OrdinalText(%d) = %q; want %q", n, s, want)
	}
}

func checkReadOrdinal(t *testing.T, s string) {
	t.Helper()
	want := int64(slices.Index(knownWords, s) + 1)
	if n, read := impl.ReadOrdinal(s); n != want || read != (want > 0) {
		t.Errorf("ReadOrdinal(%q) = %d, %v; want %d", s, n, read, want)
	}
}

// TestNumbersAreReadFromTheirForms is promise 9, for all numbers, with nothing but what the program
// returns. No form is that of two numbers.
func TestNumbersAreReadFromTheirForms(t *testing.T) {
	numberOf := map[string]int64{}
	for n := int64(1); n <= 3999; n++ {
		for _, form := range []string{impl.NumeralText(n), impl.OldNumeral(n)} {
			if other, known := numberOf[form]; known && other != n {
				t.Errorf("%q is a form of %d and of %d", form, other, n)
			}
			numberOf[form] = n
			if got, read := impl.ReadNumeral(form); form == "" || got != n || !read {
				t.Errorf("ReadNumeral(%q) = %d, %v; want %d", form, got, read, n)
			}
			if got, read := impl.ReadNumber(form); got != n || !read {
				t.Errorf("ReadNumber(%q) = %d, %v; want %d", form, got, read, n)
			}
		}
	}
}

// TestReferenceOfNumerals checks the reference itself: the letters of each word count what it is told to
// be, and no word is that of two numbers.
func TestReferenceOfNumerals(t *testing.T) {
	count := 0
	for n, words := range numeralWords().words {
		count += len(words)
		for _, s := range words {
			sum, all := countedLetters(s)
			if sum != int64(n) || !all || len(s) > 20 || numeralWords().numbers[s] != sum {
				t.Errorf("the letters of %q, a word for %d, count %d, %v", s, n, sum, all)
			}
		}
	}
	if len(numeralWords().numbers) != count {
		t.Errorf("%d words of %d", len(numeralWords().numbers), count)
	}
}

func TestFormsOfAllNumbers(t *testing.T) {
	for n := int64(-5000); n <= 10000; n++ {
		checkForms(t, n)
	}
}

// TestNumbersWithoutNumerals has the numbers beside 1 and 3999, greater ones, and extremes.
func TestNumbersWithoutNumerals(t *testing.T) {
	for _, n := range append([]int64{0, 4000, 4001, 4999, 5000, 10000, -3999, -4000}, extremes...) {
		checkForms(t, n)
		if usual, old := impl.NumeralText(n), impl.OldNumeral(n); usual != "" || old != "" {
			t.Errorf("%d has the forms %q and %q", n, usual, old)
		}
		if k, code := impl.CountForms(n); k != 0 || code != impl.ErrRange {
			t.Errorf("CountForms(%d) = %d, %d", n, k, code)
		}
	}
}

// TestKnownNumerals has numbers with all their words, the first and the last one among them, and numbers with a
// 4, with a 9, and with both at several places.
func TestKnownNumerals(t *testing.T) {
	for _, c := range []struct {
		n          int64
		usual, old string
		others     []string
	}{
		{1, "i", "j", nil}, {2, "ii", "ij", nil}, {3, "iii", "iij", nil}, {4, "iv", "iiij", []string{"iu", "iiii"}}, {5, "v", "u", nil},
		{6, "vi", "uj", []string{"vj", "ui"}}, {7, "vii", "uij", []string{"vij", "uii"}}, {8, "viii", "uiij", []string{"viij", "uiii"}},
		{9, "ix", "uiiij", []string{"viiii", "viiij", "uiiii"}}, {10, "x", "x", nil}, {11, "xi", "xj", nil}, {14, "xiv", "xiiij", []string{"xiu", "xiiii"}},
		{15, "xv", "xu", nil}, {19, "xix", "xuiiij", []string{"xviiii", "xviiij", "xuiiii"}}, {40, "xl", "xxxx", nil},
		{44, "xliv", "xxxxiiij", []string{"xliu", "xxxxiiii"}}, {45, "xlv", "xxxxu", []string{"xlu", "xxxxv"}},
		{46, "xlvi", "xxxxuj", []string{"xlvj", "xlui", "xluj", "xxxxvi", "xxxxvj", "xxxxui"}}, {49, "xlix", "xxxxuiiij", []string{"xxxxviiii", "xxxxviiij", "xxxxuiiii"}},
		{50, "l", "l", nil}, {90, "xc", "lxxxx", nil}, {91, "xci", "lxxxxj", []string{"xcj", "lxxxxi"}}, {99, "xcix", "lxxxxuiiij", []string{"lxxxxviiii", "lxxxxviiij", "lxxxxuiiii"}},
		{100, "c", "c", nil}, {400, "cd", "cccc", nil}, {500, "d", "d", nil}, {900, "cm", "dcccc", nil}, {1000, "m", "m", nil}, {1001, "mi", "mj", nil},
		{1215, "mccxv", "mccxu", nil}, {1216, "mccxvi", "mccxuj", []string{"mccxvj", "mccxui"}}, {1999, "mcmxcix", "mdcccclxxxxuiiij", []string{"mdcccclxxxxviiii", "mdcccclxxxxviiij", "mdcccclxxxxuiiii"}},
		{2000, "mm", "mm", nil}, {3000, "mmm", "mmm", nil}, {3888, "mmmdccclxxxviii", "mmmdccclxxxuiij", []string{"mmmdccclxxxviij", "mmmdccclxxxuiii"}},
		{3999, "mmmcmxcix", "mmmdcccclxxxxuiiij", []string{"mmmdcccclxxxxviiii", "mmmdcccclxxxxviiij", "mmmdcccclxxxxuiiii"}},
	} {
		if usual, old := impl.NumeralText(c.n), impl.OldNumeral(c.n); usual != c.usual || old != c.old {
			t.Errorf("the forms of %d are %q and %q; want %q and %q", c.n, usual, old, c.usual, c.old)
		}
		words := slices.Compact(append([]string{c.usual, c.old}, c.others...))
		for _, s := range words {
			if n, read := impl.ReadNumeral(s); n != c.n || !read {
				t.Errorf("ReadNumeral(%q) = %d, %v; want %d", s, n, read, c.n)
			}
		}
		if k, code := impl.CountForms(c.n); k != int64(len(words)) || code != impl.ErrNone {
			t.Errorf("CountForms(%d) = %d, %d; want %d", c.n, k, code, len(words))
		}
	}
}

// TestDigitsAtTheirPlaces has each digit alone at each place, and behind and before ones and nines.
func TestDigitsAtTheirPlaces(t *testing.T) {
	old := oldDigits
	old[2] = [10]string{"", "i", "ii", "iii", "iiii", "u", "ui", "uii", "uiii", "uiiii"}
	for place, power := range []int64{100, 10, 1} {
		for digit := int64(0); digit <= 9; digit++ {
			wantUsual, wantOld := usualDigits[place][digit], oldDigits[place][digit]
			if usual, old := impl.NumeralText(digit*power), impl.OldNumeral(digit*power); usual != wantUsual || old != wantOld {
				t.Errorf("the forms of %d are %q and %q; want %q and %q", digit*power, usual, old, wantUsual, wantOld)
			}
			for _, around := range []int64{0, 1, 9} {
				n := 3000 + around*111 + (digit-around)*power
				wantUsual, wantOld = "mmm", "mmm"
				for i := range 3 {
					here := around
					if i == place {
						here = digit
					}
					wantUsual += usualDigits[i][here]
					wantOld += old[i][here]
				}
				if start, found := strings.CutSuffix(wantOld, "i"); found {
					wantOld = start + "j"
				}
				if usual, old := impl.NumeralText(n), impl.OldNumeral(n); usual != wantUsual || old != wantOld {
					t.Errorf("the forms of %d are %q and %q; want %q and %q", n, usual, old, wantUsual, wantOld)
				}
			}
		}
	}
	for digit, want := range []string{"", "m", "mm", "mmm", "", "", "", "", "", ""} {
		n := int64(digit) * 1000
		if usual, old := impl.NumeralText(n), impl.OldNumeral(n); usual != want || old != want {
			t.Errorf("the forms of %d are %q and %q; want %q", n, usual, old, want)
		}
	}
}

// TestNumbersAreReadFromAllTheirWords also counts the words, of each number and of all of them.
func TestNumbersAreReadFromAllTheirWords(t *testing.T) {
	sum := int64(0)
	for n := int64(1); n <= 3999; n++ {
		words := numeralWords().words[n]
		for _, s := range words {
			if got, read := impl.ReadNumeral(s); got != n || !read {
				t.Errorf("ReadNumeral(%q) = %d, %v; want %d", s, got, read, n)
			}
			if got, read := impl.ReadNumber(s); got != n || !read {
				t.Errorf("ReadNumber(%q) = %d, %v; want %d", s, got, read, n)
			}
		}
		k, code := impl.CountForms(n)
		if k != int64(len(words)) || code != impl.ErrNone {
			t.Errorf("CountForms(%d) = %d, %d; want %d", n, k, code, len(words))
		}
		sum += k
	}
	if all := int64(len(numeralWords().numbers)); sum != all {
		t.Errorf("%d words are counted, but there are %d", sum, all)
	}
}

// TestCountsOfShortWords reads all words of up to six letters of numerals. For each number that has no longer
// words, as many of them are read as CountForms tells, and no more for any other one.
func TestCountsOfShortWords(t *testing.T) {
	counts := map[int64]int64{}
	for _, s := range textsOf(numeralLetters, 6) {
		checkReadNumeral(t, s)
		if n, read := impl.ReadNumeral(s); read {
			counts[n]++
		}
	}
	whole := 0
	for n := int64(1); n <= 3999; n++ {
		k, _ := impl.CountForms(n)
		old := impl.OldNumeral(n)
		if len(impl.NumeralText(n)) <= 6 && len(old) <= 6 {
			whole++
			if counts[n] != k {
				t.Errorf("%d words are read as %d; CountForms tells %d", counts[n], n, k)
			}
		} else if counts[n] > k {
			t.Errorf("%d short words are read as %d; CountForms tells %d", counts[n], n, k)
		}
	}
	if whole < 500 {
		t.Errorf("only %d numbers have short words only", whole)
	}
}

// TestWordsNearNumerals changes, leaves out and puts in one byte at each place of all words, and exchanges each
// two that follow one another.
func TestWordsNearNumerals(t *testing.T) {
	const bytes = numeralLetters + "I-\x00\xe9"
	for s := range maps.Keys(numeralWords().numbers) {
		for i := range len(s) + 1 {
			for j := range len(bytes) {
				checkReadNumeral(t, s[:i]+bytes[j:j+1]+s[i:])
			}
			if i == len(s) {
				continue
			}
			checkReadNumeral(t, s[:i]+s[i+1:])
			for j := range len(bytes) {
				checkReadNumeral(t, s[:i]+bytes[j:j+1]+s[i+1:])
			}
			if i > 0 {
				checkReadNumeral(t, s[:i-1]+s[i:i+1]+s[i-1:i]+s[i+1:])
			}
		}
	}
}

// TestMixedForms has the digits of a number partly in the usual and partly in the old form, which is read only
// if this makes no difference.
func TestMixedForms(t *testing.T) {
	for n := int64(1); n <= 999; n++ {
		s := fmt.Sprintf("%03d", n)
		for mask := range 8 {
			word := ""
			for i := range 3 {
				if digit := s[i] - '0'; mask>>i&1 == 0 {
					word += usualDigits[i][digit]
				} else {
					word += oldDigits[i][digit]
				}
			}
			checkReadNumeral(t, word)
		}
	}
	for _, s := range []string{"xciiij", "xciiii", "lxxxxiv", "lxxxxix", "mcmxciiij", "mcmlxxxxiiij", "mdccccxciv", "cdxxxx", "ccccxl", "xluiiij", "xxxxix", "cmlxxxx", "dccccxc"} {
		checkNoNumeral(t, s)
	}
}

// TestLettersInTheirPlaces has j in the last place and elsewhere, and u and v for one another, alone and both in
// one word.
func TestLettersInTheirPlaces(t *testing.T) {
	for _, c := range []struct {
		s string
		n int64
	}{
		{"i", 1}, {"j", 1}, {"ij", 2}, {"iij", 3}, {"iiij", 4}, {"iiii", 4}, {"xj", 11}, {"mj", 1001}, {"vj", 6}, {"uj", 6}, {"ui", 6}, {"vi", 6},
		{"u", 5}, {"v", 5}, {"xu", 15}, {"xv", 15}, {"iu", 4}, {"iv", 4}, {"mccxv", 1215}, {"mccxu", 1215}, {"mccxuj", 1216}, {"mccxvi", 1216},
		{"ji", 0}, {"jj", 0}, {"iji", 0}, {"jii", 0}, {"jv", 0}, {"ju", 0}, {"jx", 0}, {"xjv", 0}, {"vjj", 0}, {"vji", 0}, {"viji", 0}, {"viijj", 0}, {"jm", 0}, {"ujiij", 0},
		{"uv", 0}, {"vu", 0}, {"uu", 0}, {"vv", 0}, {"uvi", 0}, {"vuj", 0}, {"ivu", 0}, {"iuv", 0}, {"xuv", 0}, {"xvu", 0}, {"uiv", 0}, {"viu", 0}, {"vxu", 0},
	} {
		if n, read := impl.ReadNumeral(c.s); n != c.n || read != (c.n > 0) {
			t.Errorf("ReadNumeral(%q) = %d, %v; want %d", c.s, n, read, c.n)
		}
		if n, read := impl.ReadNumber(c.s); n != c.n || read != (c.n > 0) {
			t.Errorf("ReadNumber(%q) = %d, %v; want %d", c.s, n, read, c.n)
		}
	}
}

// TestWordsThatAreNoNumerals has words whose letters count a number that has no form so, is too great, or is 0 or
// less, and words with capital letters, spaces and other bytes.
func TestWordsThatAreNoNumerals(t *testing.T) {
	for _, s := range []string{
		"vx", "iix", "ic", "vv", "mmmm", "mmmmi", "mmmmcmxcix", "iiiii", "iiiij", "ixi", "iiv", "iiiv", "iil", "il", "im", "id", "vl", "vc", "vm", "xd", "xm", "ld", "lc", "lm", "dm",
		"dd", "ll", "xxxxx", "ccccc", "dccccc", "viiiii", "uiiiij", "lxxxxx", "ivi", "ivj", "xcx", "cmc", "cdc", "xlx", "cxcx", "ixx", "ivx", "iviv", "ixix", "xcxc", "xlxl", "cdcd", "cmcm", "vix", "xil", "cxm",
		"mim", "xxc", "xxl", "ccm", "ccd", "iid", "iiiiv", "iiiiiv", "iiiiiiv", "xxxxxc", "iiiix", "iiiiiix", "iiiiiiiiiix", "iiiiiiiiiiiix", "clc", "xvx", "ii i",
		"", " ", "q", "xq", "qx", "a", "o", "s", "y", "n", "nulla", "mccw", "mcczv",
		"I", "V", "X", "L", "C", "D", "M", "J", "U", "MCC", "MCCXV", "Mccxv", "mccxV", "mccxvI", "mccxvJ", "iI", "Ii",
		" i", "i ", "\ti", "i\n", "mcc xv", "mccxv ", " mccxv", "m.cc.xv", "mccxv.", ".mccxv.", "mccxv,", "+i", "-i", "i-", "m-c", "i\x00", "\x00i", "\x00", "_", "m_c",
		"\xe9", "i\xe9", "\xffi", "\x80", "x\x80", "\u00ef", "m\u00ef", "\u2170", "\u2160", "\u217f", "x\u2170", "i\u0301", "\uff49", "\u0131", "\u0456", "\u03c5", "\ufeffi",
		"\xe9\xe9\xe9\xe9", "\xea", "\xf8", "\xe3", "\xed", "\xec", "\xf6", "\xe4", "\xf5",
	} {
		checkNoNumeral(t, s)
		checkReadNumeral(t, s)
	}
}

// TestAllBytesInNumerals puts each byte alone, and before, behind and into words, also where it turns a letter
// into the one that differs from it in a single bit.
func TestAllBytesInNumerals(t *testing.T) {
	for b := range 256 {
		one := string([]byte{byte(b)})
		checkReadNumeral(t, one)
		checkReadNumeral(t, one+one)
		for _, s := range []string{"i", "v", "mccxvi", "mccxuj", "mcmxcix", "mdcccclxxxxuiiij", "mmmdcccclxxxxviiii"} {
			for i := range len(s) {
				checkReadNumeral(t, s[:i]+one+s[i+1:])
				checkReadNumeral(t, s[:i]+one+s[i:])
			}
			checkReadNumeral(t, s+one)
		}
	}
}

// TestLengthsOfNumerals has words of 1, of 18, of 20 and of 21 letters, and far longer ones. The longest word that
// is a numeral has 18 letters.
func TestLengthsOfNumerals(t *testing.T) {
	for _, s := range []string{"i", "j", "u", "v", "x", "l", "c", "d", "m", "mmmdcccclxxxxuiiij", "mmmdcccclxxxxviiii"} {
		if n, read := impl.ReadNumeral(s); n != numeralWords().numbers[s] || n == 0 || !read {
			t.Errorf("ReadNumeral(%q) = %d, %v", s, n, read)
		}
	}
	for length := 19; length <= 300; length++ {
		for i := range len(numeralLetters) {
			checkNoNumeral(t, strings.Repeat(numeralLetters[i:i+1], length))
		}
		for _, s := range []string{"mmmdcccclxxxxuiiij", "mccxv", "x"} {
			checkNoNumeral(t, strings.Repeat("i", length-len(s))+s)
			checkNoNumeral(t, s+strings.Repeat("i", length-len(s)))
		}
		checkNoNumeral(t, strings.Repeat("im", length/2)+"mcc")
		checkNoNumeral(t, strings.Repeat("\x00", length-1)+"i")
	}
	for _, s := range []string{"i", "m", "im", "mi", "q", "mccxv", " ", "j", "1", "0", "\xff"} {
		for _, times := range []int{1000, 1 << 20} {
			checkNoNumeral(t, strings.Repeat(s, times))
			if n, read := impl.ReadOrdinal(strings.Repeat(s, times)); n != 0 || read {
				t.Errorf("ReadOrdinal of %d times %q = %d, %v", times, s, n, read)
			}
		}
	}
}

func TestRandomNumerals(t *testing.T) {
	random := rand.New(rand.NewSource(9))
	for range 300000 {
		word := make([]byte, random.Intn(23))
		for i := range word {
			word[i] = numeralLetters[random.Intn(len(numeralLetters))]
			if random.Intn(200) == 0 {
				word[i] = byte(random.Intn(256))
			}
		}
		checkReadNumeral(t, string(word))
		slices.SortFunc(word, func(a, b byte) int { return strings.IndexByte("mdclxuvij", a) - strings.IndexByte("mdclxuvij", b) })
		checkReadNumeral(t, string(word))
	}
}

func TestOrdinals(t *testing.T) {
	if len(knownWords) != 31 {
		t.Fatalf("%d words are known", len(knownWords))
	}
	for i, s := range knownWords {
		n := int64(i + 1)
		if got := impl.OrdinalText(n); got != s {
			t.Errorf("OrdinalText(%d) = %q; want %q", n, got, s)
		}
		if got, read := impl.ReadOrdinal(s); got != n || !read {
			t.Errorf("ReadOrdinal(%q) = %d, %v; want %d", s, got, read, n)
		}
	}
	for n := int64(-100); n <= 5000; n++ {
		checkOrdinal(t, n)
	}
	for _, n := range append([]int64{0, 32, 33, 40, 50, 31 + 256, 1 + 1<<31}, extremes...) {
		checkOrdinal(t, n)
		if s := impl.OrdinalText(n); s != "" {
			t.Errorf("OrdinalText(%d) = %q", n, s)
		}
	}
}

// TestWordsNearOrdinals has beginnings and ends of the words, and words with another byte at a place, with one left
// out, and with one put in.
func TestWordsNearOrdinals(t *testing.T) {
	const bytes = "abcdefghijklmnopqrstuvwxyzT- \x00\xe9"
	for _, s := range knownWords {
		for i := range len(s) + 1 {
			checkReadOrdinal(t, s[:i])
			checkReadOrdinal(t, s[i:])
			for j := range len(bytes) {
				checkReadOrdinal(t, s[:i]+bytes[j:j+1]+s[i:])
				if i < len(s) {
					checkReadOrdinal(t, s[:i]+bytes[j:j+1]+s[i+1:])
				}
			}
			if i < len(s) {
				checkReadOrdinal(t, s[:i]+s[i+1:])
				checkReadOrdinal(t, s[:i]+strings.ToUpper(s[i:i+1])+s[i+1:])
			}
		}
		for _, other := range nearly(s) {
			if n, read := impl.ReadOrdinal(other); n != 0 || read {
				t.Errorf("ReadOrdinal(%q) = %d, %v", other, n, read)
			}
		}
	}
}

// TestWordsThatAreNoOrdinals has words of other numbers, with a hyphen less or more, and put together otherwise.
func TestWordsThatAreNoOrdinals(t *testing.T) {
	words := []string{
		"", "-", " ", "zeroth", "zero", "one", "two", "twenty", "thirty", "twenty-", "thirty-", "-first", "thirty-second", "thirty-third", "thirty-ninth", "fortieth", "forty-first", "hundredth",
		"twentyfirst", "twenty first", "twenty--first", "-twenty-first", "twenty-first-", "twenty-\u2010first", "twenty\u2010first", "twenty\u2212first", "thirtyfirst", "thirty first", "thirty--first",
		"twenty-tenth", "twenty-eleventh", "twenty-twentieth", "twenty-thirtieth", "thirty-tenth", "twenty-one", "twentieth-first", "thirtieth-first", "ten-first", "twenty-zeroth",
		"First", "FIRST", "Twenty-first", "twenty-First", "TWENTY-FIRST", "1", "1st", "2nd", "21st", "31", "i", "xxj", "mccxv", "first second", "first,second", "the first", "first day",
		"eigth", "nineth", "twelvth", "fiveth", "forth", "fourty", "fir", "sec", "firstt", "seventeent", "eighteen", "sixteen",
	}
	for tens := range 10 {
		for units := range 31 {
			words = append(words, []string{"ten", "twentieth", "thirtieth", "forty", "first", "twenty ", "Twenty-", "thirty ", "-", "twenty-thirty-"}[tens]+knownWords[units])
			if units > 0 {
				words = append(words, "thirty-"+knownWords[units])
			}
			if units > 8 {
				words = append(words, "twenty-"+knownWords[units])
			}
		}
	}
	for _, s := range words {
		if n, read := impl.ReadOrdinal(s); n != 0 || read {
			t.Errorf("ReadOrdinal(%q) = %d, %v", s, n, read)
		}
	}
}

func TestReadNumberOfDecimals(t *testing.T) {
	for n := int64(-5000); n <= 50000; n++ {
		s := strconv.FormatInt(n, 10)
		want, wantRead := n, true
		if n < 1 || n > 3999 {
			want, wantRead = 0, false
		}
		if got, read := impl.ReadNumber(s); got != want || read != wantRead {
			t.Errorf("ReadNumber(%q) = %d, %v; want %d, %v", s, got, read, want, wantRead)
		}
		for _, other := range []string{"0" + s, "00" + s, "+" + s, "-" + s, " " + s, s + " ", s + ".", s + "i", "i" + s, s + "\x00", s + "\n", "'" + s} {
			if got, read := impl.ReadNumber(other); got != 0 || read {
				t.Errorf("ReadNumber(%q) = %d, %v", other, got, read)
			}
		}
		if got, read := impl.ReadNumeral(s); got != 0 || read {
			t.Errorf("ReadNumeral(%q) = %d, %v", s, got, read)
		}
	}
}

// TestKnownNumbers has the first and the last number and those beside them, in decimal and as numerals.
func TestKnownNumbers(t *testing.T) {
	for _, c := range []struct {
		s string
		n int64
	}{
		{"1", 1}, {"9", 9}, {"10", 10}, {"99", 99}, {"100", 100}, {"999", 999}, {"1000", 1000}, {"1215", 1215}, {"2000", 2000}, {"3999", 3999}, {"3998", 3998},
		{"i", 1}, {"j", 1}, {"mccxv", 1215}, {"mccxu", 1215}, {"mccxuj", 1216}, {"mmmcmxcix", 3999}, {"mmmdcccclxxxxuiiij", 3999}, {"iiij", 4}, {"iv", 4},
		{"0", 0}, {"4000", 0}, {"4001", 0}, {"9999", 0}, {"10000", 0}, {"mmmm", 0}, {"-1", 0}, {"-0", 0}, {"+1", 0}, {"01", 0}, {"00", 0}, {"001", 0}, {"0001", 0}, {"01215", 0}, {"03999", 0},
	} {
		if n, read := impl.ReadNumber(c.s); n != c.n || read != (c.n > 0) {
			t.Errorf("ReadNumber(%q) = %d, %v; want %d", c.s, n, read, c.n)
		}
	}
}

// TestTextsThatAreNoNumbers has decimals with signs, blanks, points and other digits, decimals that would come into
// range if they wrapped around, and decimals and numerals mixed.
func TestTextsThatAreNoNumbers(t *testing.T) {
	for _, s := range []string{
		"", " ", "-", "+", ".", "1 ", " 1", "1\n", "\t1", "+1215", "-1215", "--1", "1-", "1.0", "1.", ".1", "1,215", "1_215", "1 215", "1e3", "0x1", "0b1", "0o7", "1215a", "a1215", "12a15", "one", "first",
		"\u0661", "\uff11", "\u00b2", "1\u0301", "\x00", "1\x00", "\xff", "1\xff", "\xb1", "12\xb115", "/", ":", "1/", "1:", "12/5", "12:5",
		"65536", "65537", "131072", "4294967296", "4294967297", "4294968511", "9223372036854775807", "9223372036854775808", "18446744073709551616", "18446744073709551617", "18446744073709552831",
		"18446744073709555615", "184467440737095516170", "340282366920938463463374607431768211457", "-18446744073709551615", "-9223372036854775808", "10000000000000000000", "99999999999999999999",
		"000000000000000000001", "00000000000000000000001215",
		"12xv", "x1", "1x", "m215", "mcc15", "mcc xv", "1i", "i1", "mccx5", "1ccxv", "1215mccxv", "mccxv1215", "1215 mccxv", "ix9", "9ix", "0i", "i0", "0x", "x0",
	} {
		if n, read := impl.ReadNumber(s); n != 0 || read {
			t.Errorf("ReadNumber(%q) = %d, %v", s, n, read)
		}
	}
}

// TestShortTextsOfNumbers reads all texts of up to five digits, signs and letters.
func TestShortTextsOfNumbers(t *testing.T) {
	for _, s := range textsOf("01349+-im ", 5) {
		checkReadNumber(t, s)
	}
}

// TestLongDecimals puts digits behind and before numbers, up to lengths at which each way to count would wrap
// around.
func TestLongDecimals(t *testing.T) {
	for length := 5; length <= 70; length++ {
		for digit := range 10 {
			fill := strings.Repeat(strconv.Itoa(digit), length-1)
			for _, s := range []string{fill + "1", "1" + fill, fill + fill[:1]} {
				checkNoNumeral(t, s)
			}
		}
	}
}

// TestNumeralsAtOnce asks from several goroutines at once, as no call may depend on another one, and a panic inside
// must not reach any of them.
func TestNumeralsAtOnce(t *testing.T) {
	var group sync.WaitGroup
	for first := range int64(8) {
		group.Go(func() {
			for n := first; n <= 4000; n += 5 {
				checkForms(t, n)
				checkOrdinal(t, n%40)
				for _, s := range []string{impl.NumeralText(n), impl.OldNumeral(n), strconv.FormatInt(n, 10), "q" + impl.OldNumeral(n), impl.NumeralText(n) + "q", "j" + impl.NumeralText(n)} {
					checkReadNumeral(t, s)
					checkReadNumber(t, s)
					checkReadOrdinal(t, s)
				}
			}
		})
	}
	group.Wait()
}
