package tests

import (
	"fmt"
	"math/rand"
	"slices"
	"strings"
	"sync"
	"testing"
	"unsafe"

	"loop.example/g01034/impl"
)

// wordLetters are the letters of words.
const wordLetters = "abcdefghijklmnopqrstuvwxyz"

// oldLetters are those that normal forms exchange or leave out, what they become, and one other letter.
const oldLetters = "eijuvwyk"

// isWord tells what IsWord has to return.
func isWord(s string) bool {
	return len(s) >= 1 && len(s) <= 20 && strings.Trim(s, wordLetters) == ""
}

// normalOf tells the normal form of a word, step by step as the document does.
func normalOf(s string) string {
	s = strings.NewReplacer("v", "u", "j", "i", "y", "i", "w", "uu").Replace(s)
	for i := range len(wordLetters) {
		one := wordLetters[i : i+1]
		for strings.Contains(s, one+one) {
			s = strings.ReplaceAll(s, one+one, one)
		}
	}
	if start, found := strings.CutSuffix(s, "e"); found && len(start) >= 2 {
		return start
	}
	return s
}

// distanceOf tells the distance of two words by what becomes of their last letters, and remembers it for all of
// their beginnings.
func distanceOf(a string, b string) int64 {
	known := map[[2]int]int64{}
	var of func(i int, j int) int64
	of = func(i int, j int) int64 {
		if i == 0 || j == 0 {
			return int64(i + j)
		}
		if d, found := known[[2]int{i, j}]; found {
			return d
		}
		d := 1 + min(of(i-1, j), of(i, j-1), of(i-1, j-1))
		if a[i-1] == b[j-1] {
			d = of(i-1, j-1)
		}
		known[[2]int{i, j}] = d
		return d
	}
	return of(len(a), len(b))
}

// changedOnce lists what becomes of a text when one letter of an alphabet is put in or exchanged, or a letter left out.
func changedOnce(s string, alphabet string) []string {
	var texts []string
	for i := range len(s) + 1 {
		if i < len(s) {
			texts = append(texts, s[:i]+s[i+1:])
		}
		for j := range len(alphabet) {
			texts = append(texts, s[:i]+alphabet[j:j+1]+s[i:])
			if i < len(s) {
				texts = append(texts, s[:i]+alphabet[j:j+1]+s[i+1:])
			}
		}
	}
	return texts
}

// nearestWord tells what NearestWord has to return.
func nearestWord(s string, list []string, most int64) (int64, int64, int64) {
	if !isWord(s) || !isPhrase(list) {
		return 0, 0, impl.ErrInvalid
	}
	if most < 0 || most > 20 {
		return 0, 0, impl.ErrRange
	}
	for d := int64(0); d <= most; d++ {
		for i, other := range list {
			if distanceOf(normalOf(s), normalOf(other)) == d {
				return int64(i), d, impl.ErrNone
			}
		}
	}
	return 0, 0, impl.ErrNotFound
}

// isPhrase tells whether a list is a phrase.
func isPhrase(list []string) bool {
	return len(list) <= 60 && !slices.ContainsFunc(list, func(s string) bool { return !isWord(s) })
}

// phraseIn tells the words of a text byte by byte, and whether they are a phrase.
func phraseIn(s string) ([]string, bool) {
	if s == "" {
		return nil, true
	}
	words := []string{""}
	for i := range len(s) {
		if s[i] == ' ' {
			words = append(words, "")
		} else {
			words[len(words)-1] += s[i : i+1]
		}
	}
	return words, isPhrase(words)
}

// sharedOf tells the length of the longest list that stands in both phrases: it looks for each part of one in the
// other one.
func sharedOf(a []string, b []string) int64 {
	forms := func(words []string) []string {
		list := make([]string, len(words))
		for i, word := range words {
			list[i] = normalOf(word)
		}
		return list
	}
	parts, whole := forms(a), " "+strings.Join(forms(b), " ")+" "
	for length := len(a); length > 0; length-- {
		for i := 0; i+length <= len(a); i++ {
			if strings.Contains(whole, " "+strings.Join(parts[i:i+length], " ")+" ") {
				return int64(length)
			}
		}
	}
	return 0
}

func checkIsWord(t *testing.T, s string) {
	t.Helper()
	want := isWord(s)
	if got := impl.IsWord(s); got != want {
		t.Errorf("IsWord(%q) = %v", s, got)
	}
	if want {
		checkNormal(t, s)
	} else {
		checkNoWord(t, s)
	}
}

func checkNormal(t *testing.T, s string) {
	t.Helper()
	if form, code := impl.NormalWord(s); form != normalOf(s) || code != impl.ErrNone {
		t.Errorf("NormalWord(%q) = %q, %d; want %q", s, form, code, normalOf(s))
	}
}

// checkNoWord gives each function a text that is no word.
func checkNoWord(t *testing.T, s string) {
	t.Helper()
	if impl.IsWord(s) {
		t.Errorf("%q is a word", s)
	}
	if form, code := impl.NormalWord(s); form != "" || code != impl.ErrInvalid {
		t.Errorf("NormalWord(%q) = %q, %d", s, form, code)
	}
	for _, pair := range [][2]string{{s, "a"}, {"a", s}, {s, s}, {s, strings.Repeat("z", 20)}} {
		if d, code := impl.WordDistance(pair[0], pair[1]); d != 0 || code != impl.ErrInvalid {
			t.Errorf("WordDistance(%q, %q) = %d, %d", pair[0], pair[1], d, code)
		}
		if alike, code := impl.AreAlike(pair[0], pair[1]); alike || code != impl.ErrInvalid {
			t.Errorf("AreAlike(%q, %q) = %v, %d", pair[0], pair[1], alike, code)
		}
		if i, d, code := impl.NearestWord(pair[0], pair[1:], 20); i != 0 || d != 0 || code != impl.ErrInvalid {
			t.Errorf("NearestWord(%q, %q) = %d, %d, %d", pair[0], pair[1:], i, d, code)
		}
	}
	checkNoPhrase(t, []string{s})
}

// checkNoPhrase gives each function a list that is no phrase.
func checkNoPhrase(t *testing.T, list []string) {
	t.Helper()
	if text, code := impl.PhraseText(list); text != "" || code != impl.ErrInvalid {
		t.Errorf("PhraseText(%q) = %q, %d", list, text, code)
	}
	for _, pair := range [][2][]string{{list, {"a"}}, {{"a"}, list}, {list, nil}, {nil, list}, {list, list}} {
		if n, code := impl.SharedWords(pair[0], pair[1]); n != 0 || code != impl.ErrInvalid {
			t.Errorf("SharedWords(%q, %q) = %d, %d", pair[0], pair[1], n, code)
		}
	}
	for _, most := range []int64{0, 20} {
		if i, d, code := impl.NearestWord("a", list, most); i != 0 || d != 0 || code != impl.ErrInvalid {
			t.Errorf("NearestWord in %q = %d, %d, %d", list, i, d, code)
		}
	}
}

func checkDistance(t *testing.T, a string, b string, want int64) {
	t.Helper()
	for _, pair := range [][2]string{{a, b}, {b, a}} {
		if d, code := impl.WordDistance(pair[0], pair[1]); d != want || code != impl.ErrNone {
			t.Errorf("WordDistance(%q, %q) = %d, %d; want %d", pair[0], pair[1], d, code, want)
		}
	}
}

// checkAlike compares two words, and the distance of what the program returns as their normal forms.
func checkAlike(t *testing.T, a string, b string, want bool) {
	t.Helper()
	for _, pair := range [][2]string{{a, b}, {b, a}} {
		if alike, code := impl.AreAlike(pair[0], pair[1]); alike != want || code != impl.ErrNone {
			t.Errorf("AreAlike(%q, %q) = %v, %d", pair[0], pair[1], alike, code)
		}
	}
	one, _ := impl.NormalWord(a)
	two, _ := impl.NormalWord(b)
	if d, code := impl.WordDistance(one, two); (d == 0) != want || code != impl.ErrNone {
		t.Errorf("the distance of %q and %q, the normal forms of %q and %q, is %d, %d", one, two, a, b, d, code)
	}
}

func checkNearest(t *testing.T, s string, list []string, most int64) {
	t.Helper()
	wantIndex, wantDistance, wantCode := nearestWord(s, list, most)
	if i, d, code := impl.NearestWord(s, list, most); i != wantIndex || d != wantDistance || code != wantCode {
		t.Errorf("NearestWord(%q, %q, %d) = %d, %d, %d; want %d, %d, %d", s, list, most, i, d, code, wantIndex, wantDistance, wantCode)
	}
}

// checkSplit compares SplitPhrase, and PhraseText of what is found.
func checkSplit(t *testing.T, s string) {
	t.Helper()
	want, found := phraseIn(s)
	if !found {
		checkNoSplit(t, s)
		return
	}
	words, code := impl.SplitPhrase(s)
	if !slices.Equal(words, want) || code != impl.ErrNone {
		t.Errorf("SplitPhrase(%q) = %q, %d; want %q", s, words, code, want)
	}
	if text, code := impl.PhraseText(words); text != s || code != impl.ErrNone {
		t.Errorf("PhraseText(%q) = %q, %d", words, text, code)
	}
}

func checkNoSplit(t *testing.T, s string) {
	t.Helper()
	if words, code := impl.SplitPhrase(s); len(words) != 0 || code != impl.ErrSyntax {
		t.Errorf("SplitPhrase(%q) = %q, %d", s, words, code)
	}
}

func checkShared(t *testing.T, a []string, b []string, want int64) {
	t.Helper()
	for _, pair := range [][2][]string{{a, b}, {b, a}} {
		if n, code := impl.SharedWords(pair[0], pair[1]); n != want || code != impl.ErrNone {
			t.Errorf("SharedWords(%q, %q) = %d, %d; want %d", pair[0], pair[1], n, code, want)
		}
	}
}

// randomWord makes a word of 1 to 20 letters of an alphabet.
func randomWord(random *rand.Rand, alphabet string) string {
	word := make([]byte, 1+random.Intn(20))
	for i := range word {
		word[i] = alphabet[random.Intn(len(alphabet))]
	}
	return string(word)
}

// alikeWord makes a word that has the same normal form, by exchanging letters, repeating them, and putting an e
// behind, as far as it stays a word.
func alikeWord(random *rand.Rand, s string) string {
	spellings := map[byte][]string{'u': {"u", "v", "w", "uu", "vv", "uv"}, 'i': {"i", "j", "y", "ij", "yy"}}
	word := ""
	for i := range len(s) {
		forms := append(spellings[s[i]], s[i:i+1], s[i:i+1]+s[i:i+1])
		word += forms[random.Intn(len(forms))]
	}
	if len(s) > 1 && random.Intn(2) == 0 {
		word += "e"
	}
	if len(word) > 20 {
		return s
	}
	return word
}

// numbered lists some different words that are not alike.
func numbered(count int) []string {
	const letters = "abcdfghklm"
	words := make([]string, count)
	for i := range words {
		words[i] = "n" + letters[i/10:i/10+1] + "o" + letters[i%10:i%10+1]
	}
	return words
}

// TestDistancesAreSymmetricAndKeepTheTriangle is promise 10, with nothing but what the program returns.
func TestDistancesAreSymmetricAndKeepTheTriangle(t *testing.T) {
	random := rand.New(rand.NewSource(10))
	words := textsOf("ab", 5)[1:]
	words = append(words, textsOf("evw", 3)[1:]...)
	for range 120 {
		word := randomWord(random, wordLetters)
		words = append(words, word, randomWord(random, "ab"), word[len(word)/2:], word[:len(word)/2+1])
	}
	distances := make([][]int64, len(words))
	for i, a := range words {
		distances[i] = make([]int64, len(words))
		for j, b := range words {
			d, code := impl.WordDistance(a, b)
			if code != impl.ErrNone || d < 0 || (d == 0) != (a == b) {
				t.Errorf("WordDistance(%q, %q) = %d, %d", a, b, d, code)
			}
			distances[i][j] = d
		}
	}
	for i := range words {
		for j := range words {
			if distances[i][j] != distances[j][i] {
				t.Fatalf("from %q to %q it is %d, but back %d", words[i], words[j], distances[i][j], distances[j][i])
			}
			for k := range words {
				if distances[i][k] > distances[i][j]+distances[j][k] {
					t.Fatalf("from %q to %q it is %d, but by way of %q %d", words[i], words[k], distances[i][k], words[j], distances[i][j]+distances[j][k])
				}
			}
		}
	}
}

// TestAlikeWordsHaveNoDistanceBetweenTheirNormalForms is the rest of the guarantee, for all pairs of many words,
// with nothing but what the program returns.
func TestAlikeWordsHaveNoDistanceBetweenTheirNormalForms(t *testing.T) {
	words := textsOf(oldLetters, 3)[1:]
	forms := make([]string, len(words))
	for i, word := range words {
		form, code := impl.NormalWord(word)
		if code != impl.ErrNone || !impl.IsWord(form) {
			t.Fatalf("NormalWord(%q) = %q, %d", word, form, code)
		}
		forms[i] = form
	}
	count := 0
	for i, a := range words {
		for j, b := range words {
			alike, code := impl.AreAlike(a, b)
			d, codeOfDistance := impl.WordDistance(forms[i], forms[j])
			if alike != (d == 0) || alike != (forms[i] == forms[j]) || code != impl.ErrNone || codeOfDistance != impl.ErrNone {
				t.Errorf("AreAlike(%q, %q) = %v, %d; the distance of %q and %q is %d", a, b, alike, code, forms[i], forms[j], d)
			}
			if alike && a != b {
				count++
			}
		}
	}
	if count < 10000 {
		t.Errorf("only %d pairs are alike", count)
	}
}

// TestLengthsOfWords has words of 0, 1, 20 and 21 letters, and far longer ones.
func TestLengthsOfWords(t *testing.T) {
	for length := range 300 {
		for _, s := range []string{"a", "z", "w", "ab", "we", "ye", "e"} {
			checkIsWord(t, strings.Repeat(s, length)[:length])
		}
	}
	for _, c := range []struct {
		length int
		want   bool
	}{{0, false}, {1, true}, {2, true}, {19, true}, {20, true}, {21, false}, {22, false}, {256, false}, {257, false}, {276, false}, {1 << 20, false}} {
		if got := impl.IsWord(strings.Repeat("k", c.length)); got != c.want {
			t.Errorf("IsWord of %d letters = %v", c.length, got)
		}
	}
	for _, s := range []string{"a", "w", " ", "a ", "A", "\x00", "\xff"} {
		checkNoWordQuietly(t, strings.Repeat(s, 1<<20))
	}
}

// checkNoWordQuietly is checkNoWord and checkNoSplit for a text that is too long to be printed.
func checkNoWordQuietly(t *testing.T, s string) {
	t.Helper()
	_, normal := impl.NormalWord(s)
	_, distance := impl.WordDistance(s, s)
	_, alike := impl.AreAlike("a", s)
	_, _, nearest := impl.NearestWord("a", []string{"a", s}, 0)
	_, split := impl.SplitPhrase(s)
	_, text := impl.PhraseText([]string{s})
	_, shared := impl.SharedWords([]string{s}, []string{"a"})
	want := [7]int64{impl.ErrInvalid, impl.ErrInvalid, impl.ErrInvalid, impl.ErrInvalid, impl.ErrSyntax, impl.ErrInvalid, impl.ErrInvalid}
	if got := [7]int64{normal, distance, alike, nearest, split, text, shared}; impl.IsWord(s) || got != want {
		t.Errorf("a text of %d bytes that begins with %q gives %v", len(s), s[:10], got)
	}
}

// TestAllBytesInWords has each byte alone, each two bytes, and each one at the beginning, in the middle and at the
// end of words, also where the word has 20 or 21 letters then.
func TestAllBytesInWords(t *testing.T) {
	for b := range 256 {
		one := string([]byte{byte(b)})
		checkIsWord(t, one)
		for c := range 256 {
			if two := one + string([]byte{byte(c)}); impl.IsWord(two) != isWord(two) {
				t.Errorf("IsWord(%q) = %v", two, !isWord(two))
			}
		}
		for _, s := range []string{"king", "seale", "abcdefghijklmnopqrs", "abcdefghijklmnopqrst"} {
			for i := range len(s) {
				checkIsWord(t, s[:i]+one+s[i:])
				checkIsWord(t, s[:i]+one+s[i+1:])
			}
			checkIsWord(t, s+one)
		}
	}
}

// TestTextsThatAreNoWords has capital letters, digits, spaces, signs, zero bytes and other letters.
func TestTextsThatAreNoWords(t *testing.T) {
	for _, s := range []string{
		"", " ", "  ", "a b", "king ", " king", "king\n", "\tking", "ki\rng", "A", "King", "kinG", "KING", "kiNg", "0", "king1", "1king", "ki1ng", "-", "king's", "twenty-first", "king.", "king,lord", "_", "`", "{", "@", "[", "a`", "{a", "a{a",
		"\x00", "king\x00", "\x00king", "ki\x00ng", "\x7f", "\x80", "king\x80", "\xe1", "ki\xeeng", "\xff", "k\u00efng", "\u00e6", "\u017f", "\u0430", "k\u0456ng", "\u212a", "kin\u0261", "i\u0301", "\uff4b", "\ufeffking", "king\u00a0", "\u00f0e",
		"abcdefghijklmnopqrst ", " abcdefghijklmnopqrs", "Abcdefghijklmnopqrst", "abcdefghijklmnopqrstu",
	} {
		checkNoWord(t, s)
	}
}

// TestKnownNormalForms has each exchanged letter alone, at the beginning and at the end, what becomes equal only by
// an exchange, long runs, and an e at the end of words of each length.
func TestKnownNormalForms(t *testing.T) {
	for _, c := range []struct{ s, want string }{
		{"yeere", "ier"}, {"jvdgge", "iudg"}, {"wytnesse", "uitnes"}, {"kynge", "king"}, {"king", "king"}, {"lord", "lord"}, {"seale", "seal"}, {"vnder", "under"}, {"ovr", "our"},
		{"v", "u"}, {"j", "i"}, {"y", "i"}, {"w", "u"}, {"u", "u"}, {"i", "i"}, {"e", "e"}, {"a", "a"}, {"z", "z"}, {"x", "x"},
		{"va", "ua"}, {"ja", "ia"}, {"ya", "ia"}, {"wa", "ua"}, {"av", "au"}, {"aj", "ai"}, {"ay", "ai"}, {"aw", "au"}, {"ava", "aua"}, {"aja", "aia"}, {"aya", "aia"}, {"awa", "aua"},
		{"vv", "u"}, {"uv", "u"}, {"vu", "u"}, {"uu", "u"}, {"ww", "u"}, {"wu", "u"}, {"uw", "u"}, {"vw", "u"}, {"wv", "u"}, {"uvw", "u"}, {"wuuvvuvw", "u"}, {"awuuvvuvb", "aub"}, {"wawa", "uaua"},
		{"ij", "i"}, {"ji", "i"}, {"yi", "i"}, {"iy", "i"}, {"jy", "i"}, {"yj", "i"}, {"iijjyy", "i"}, {"yvyv", "iuiu"}, {"jwy", "iui"}, {"ajyb", "aib"},
		{"aa", "a"}, {"aaa", "a"}, {"aaaa", "a"}, {"aabb", "ab"}, {"abba", "aba"}, {"aaabbbccc", "abc"}, {"abab", "abab"}, {"aba", "aba"}, {"zzzz", "z"}, {"llll", "l"}, {"aaaab", "ab"}, {"abbbb", "ab"},
		{"ee", "e"}, {"eee", "e"}, {"eeee", "e"}, {"ae", "ae"}, {"aee", "ae"}, {"aeee", "ae"}, {"see", "se"}, {"abe", "ab"}, {"abee", "ab"}, {"abeee", "ab"}, {"abce", "abc"}, {"abcee", "abc"},
		{"aae", "ae"}, {"aaae", "ae"}, {"aabbe", "ab"}, {"we", "ue"}, {"wwe", "ue"}, {"uve", "ue"}, {"ve", "ue"}, {"ye", "ie"}, {"yje", "ie"}, {"awe", "au"}, {"wye", "ui"}, {"yve", "iu"}, {"uae", "ua"},
		{"eae", "ea"}, {"eeaee", "ea"}, {"eve", "eu"}, {"ewe", "eu"}, {"aea", "aea"}, {"ea", "ea"}, {"eab", "eab"}, {"ebe", "eb"}, {"abede", "abed"}, {"eaeae", "eaea"}, {"abec", "abec"},
		{"wwwwwwwwwwwwwwwwwwww", "u"}, {"vvvvvvvvvvvvvvvvvvvv", "u"}, {"yyyyyyyyyyyyyyyyyyyy", "i"}, {"jjjjjjjjjjjjjjjjjjjj", "i"}, {"eeeeeeeeeeeeeeeeeeee", "e"}, {"qqqqqqqqqqqqqqqqqqqq", "q"},
		{"wwwwwwwwwwwwwwwwwwwe", "ue"}, {"ewwwwwwwwwwwwwwwwwwe", "eu"}, {"wawawawawawawawawawa", "uauauauauauauauauaua"}, {"wewewewewewewewewewe", "ueueueueueueueueueu"},
		{"abcdefghijklmnopqrst", "abcdefghiklmnopqrst"}, {"bcdefghiklmnopqrstuv", "bcdefghiklmnopqrstu"}, {"abcdfghiklmnopqrstue", "abcdfghiklmnopqrstu"}, {"bacadafagahakalamana", "bacadafagahakalamana"},
	} {
		if form, code := impl.NormalWord(c.s); form != c.want || code != impl.ErrNone {
			t.Errorf("NormalWord(%q) = %q, %d; want %q", c.s, form, code, c.want)
		}
		checkNormal(t, c.s)
		checkAlike(t, c.s, c.want, true)
	}
	for i := range len(wordLetters) {
		one := wordLetters[i : i+1]
		want := one
		if k := strings.Index("vjyw", one); k >= 0 {
			want = "uiiu"[k : k+1]
		}
		for _, s := range []string{one, one + one, one + one + one, strings.Repeat(one, 20)} {
			if form, code := impl.NormalWord(s); form != want || code != impl.ErrNone {
				t.Errorf("NormalWord(%q) = %q, %d; want %q", s, form, code, want)
			}
		}
	}
}

// TestNormalFormsOfShortWords has all words of up to five letters that matter, and all words of up to three letters.
func TestNormalFormsOfShortWords(t *testing.T) {
	for _, s := range textsOf(oldLetters, 5)[1:] {
		checkNormal(t, s)
	}
	for _, s := range textsOf(wordLetters, 3)[1:] {
		checkNormal(t, s)
	}
}

// TestRandomNormalForms also has the normal form of a normal form, which is this form again.
func TestRandomNormalForms(t *testing.T) {
	random := rand.New(rand.NewSource(11))
	for i := range 40000 {
		s := randomWord(random, []string{oldLetters, wordLetters, "uvw", "eab"}[i%4])
		checkNormal(t, s)
		form, _ := impl.NormalWord(s)
		if again, code := impl.NormalWord(form); again != form || code != impl.ErrNone {
			t.Errorf("NormalWord(%q) = %q, %d, the normal form of %q", form, again, code, s)
		}
	}
}

// TestKnownDistances has letters that are put in, left out and exchanged at the beginning, in the middle and at the
// end, words without a common letter, and the longest ones.
func TestKnownDistances(t *testing.T) {
	const long = "abcdefghijklmnopqrst"
	a20, b20 := strings.Repeat("a", 20), strings.Repeat("b", 20)
	for _, c := range []struct {
		a, b string
		want int64
	}{
		{"king", "kyng", 1}, {"seal", "sealed", 2}, {"lord", "lord", 0}, {"abc", "xbd", 2}, {"kitten", "sitting", 3}, {"saturday", "sunday", 3}, {"a", "a", 0}, {"a", "b", 1}, {"z", "a", 1},
		{"king", "aking", 1}, {"king", "kiang", 1}, {"king", "kinga", 1}, {"king", "ing", 1}, {"king", "kng", 1}, {"king", "kin", 1}, {"king", "aing", 1}, {"king", "kang", 1}, {"king", "kina", 1},
		{"king", "abking", 2}, {"king", "akinga", 2}, {"king", "kng", 1}, {"king", "ng", 2}, {"king", "kg", 2}, {"king", "ki", 2}, {"king", "in", 2}, {"king", "abng", 2}, {"king", "kiab", 2}, {"king", "aina", 2},
		{"ab", "ba", 2}, {"abc", "bca", 2}, {"abc", "cab", 2}, {"abc", "cba", 2}, {"abcd", "badc", 3}, {"ab", "bab", 1}, {"abab", "baba", 2}, {"ababab", "bababa", 2}, {"aab", "baa", 2}, {"xaby", "yabx", 2},
		{"a", "aa", 1}, {"aa", "aaa", 1}, {"a", "aba", 2}, {"aa", "aba", 1}, {"a", "bab", 2}, {"b", "aca", 3}, {"abc", "def", 3}, {"ab", "cdef", 4}, {"abcdef", "gh", 6}, {"abcdef", "d", 5}, {"abcdef", "fedcba", 6},
		{"v", "u", 1}, {"j", "i", 1}, {"y", "i", 1}, {"w", "uu", 2}, {"w", "vv", 2}, {"vu", "uv", 2}, {"see", "se", 1}, {"kynge", "king", 2}, {"e", "ee", 1}, {"abe", "ab", 1}, {"wwww", "uuuu", 4}, {"yeere", "ier", 3},
		{"a", a20, 19}, {"b", a20, 20}, {"aa", a20, 18}, {"bb", a20, 20}, {"ba", a20, 19}, {"ab", a20, 19}, {"aba", a20, 18}, {a20[:19], a20, 1}, {a20, a20, 0}, {a20, b20, 20}, {a20[:10] + b20[:10], b20, 10}, {a20[:10] + b20[:10], b20[:10] + a20[:10], 20},
		{"a", long, 19}, {"t", long, 19}, {"k", long, 19}, {"z", long, 20}, {"at", long, 18}, {"ta", long, 20}, {long, long, 0}, {long, long[1:], 1}, {long, long[:19], 1}, {long, long[:9] + long[10:], 1}, {long, long[1:] + "a", 2}, {long, "z" + long[:19], 2},
		{long, "z" + long[1:], 1}, {long, long[:10] + "z" + long[11:], 1}, {long, long[:19] + "z", 1}, {long, long[10:] + long[:10], 20}, {long, long[10:], 10}, {long, long[:10], 10}, {long, long[5:15], 10}, {long, "uvwxyzuvwxyzuvwxyzuv", 20},
	} {
		checkDistance(t, c.a, c.b, c.want)
		if d := distanceOf(c.a, c.b); d != c.want {
			t.Errorf("the reference tells %d for %q and %q; want %d", d, c.a, c.b, c.want)
		}
	}
}

// TestDistancesByChanges compares the distances of all words of up to five letters a and b, and of up to three letters
// a, b and c, with the numbers of changes after which one word first becomes the other one.
func TestDistancesByChanges(t *testing.T) {
	for alphabet, most := range map[string]int{"ab": 5, "abc": 3} {
		words := textsOf(alphabet, most)[1:]
		for _, first := range words {
			steps := map[string]int64{first: 0}
			for waiting := []string{first}; len(waiting) > 0; waiting = waiting[1:] {
				for _, s := range changedOnce(waiting[0], alphabet) {
					if _, known := steps[s]; !known && len(s) <= most+1 {
						steps[s] = steps[waiting[0]] + 1
						waiting = append(waiting, s)
					}
				}
			}
			for _, word := range words {
				checkDistance(t, first, word, steps[word])
			}
		}
	}
}

// TestDistancesOfAllLengths has words of equal letters and of different ones, of all lengths.
func TestDistancesOfAllLengths(t *testing.T) {
	const other = "uvwxyzuvwxyzuvwxyzuv"
	for i := 1; i <= 20; i++ {
		for j := 1; j <= 20; j++ {
			gap := int64(max(i, j) - min(i, j))
			checkDistance(t, strings.Repeat("a", i), strings.Repeat("a", j), gap)
			checkDistance(t, strings.Repeat("a", i), strings.Repeat("b", j), int64(max(i, j)))
			checkDistance(t, wordLetters[:i], wordLetters[:j], gap)
			checkDistance(t, wordLetters[20-i:20], wordLetters[20-j:20], gap)
			checkDistance(t, wordLetters[:i], other[:j], int64(max(i, j)))
		}
	}
}

// TestRandomDistances has random words, and words that random changes are made of, which cannot be farther than
// these.
func TestRandomDistances(t *testing.T) {
	random := rand.New(rand.NewSource(12))
	for i := range 6000 {
		alphabet := []string{"ab", "abc", oldLetters, wordLetters}[i%4]
		a, b := randomWord(random, alphabet), randomWord(random, alphabet)
		checkDistance(t, a, b, distanceOf(a, b))
		changes := int64(random.Intn(6))
		b = a
		for range changes {
			texts := slices.DeleteFunc(changedOnce(b, alphabet), func(s string) bool { return !isWord(s) })
			b = texts[random.Intn(len(texts))]
		}
		checkDistance(t, a, b, distanceOf(a, b))
		if d, _ := impl.WordDistance(a, b); d > changes {
			t.Errorf("WordDistance(%q, %q) = %d; %d changes are enough", a, b, d, changes)
		}
	}
}

// TestAlikeWords has words that are alike with other letters, and words that are not.
func TestAlikeWords(t *testing.T) {
	for _, c := range []struct {
		a, b string
		want bool
	}{
		{"king", "kynge", true}, {"king", "king", true}, {"kyng", "kjng", true}, {"under", "vnder", true}, {"our", "ovr", true}, {"seal", "seale", true}, {"seal", "seall", true}, {"witness", "wytnes", true}, {"witnes", "vvitnesse", true},
		{"w", "u", true}, {"w", "vvvv", true}, {"w", "uu", true}, {"v", "u", true}, {"j", "y", true}, {"wwwwwwwwwwwwwwwwwwww", "v", true}, {"ee", "e", true}, {"see", "se", true}, {"abe", "ab", true}, {"abee", "abb", true}, {"yeere", "ier", true}, {"yere", "yeer", true},
		{"king", "ring", false}, {"king", "kin", false}, {"king", "kings", false}, {"a", "b", false}, {"a", "ae", false}, {"se", "s", false}, {"we", "w", false}, {"e", "a", false}, {"ab", "ba", false}, {"aba", "ab", false}, {"u", "i", false}, {"v", "y", false},
		{"v", "b", false}, {"w", "m", false}, {"i", "l", false}, {"c", "k", false}, {"s", "z", false}, {"x", "ks", false}, {"seal", "eseal", false}, {"abet", "abt", false}, {"uau", "ua", false}, {"abcdefghijklmnopqrst", "abcdefghijklmnopqrs", false},
	} {
		checkAlike(t, c.a, c.b, c.want)
	}
	for i := range len(wordLetters) {
		for j := range len(wordLetters) {
			a, b := wordLetters[i:i+1], wordLetters[j:j+1]
			checkAlike(t, "a"+a+"a", "a"+b+"a", normalOf("a"+a+"a") == normalOf("a"+b+"a"))
			checkAlike(t, a, b, a == b || strings.Contains("uvw", a) && strings.Contains("uvw", b) || strings.Contains("ijy", a) && strings.Contains("ijy", b))
		}
	}
	random := rand.New(rand.NewSource(13))
	for range 20000 {
		word := randomWord(random, oldLetters)
		checkAlike(t, word, alikeWord(random, normalOf(word)), true)
		other := randomWord(random, oldLetters)
		checkAlike(t, word, other, normalOf(word) == normalOf(other))
	}
}

// TestKnownNearestWords has the first of several words, words that are nearest only by their normal forms, and least
// distances that are equal to most and one greater.
func TestKnownNearestWords(t *testing.T) {
	const none, bad, far = impl.ErrNone, impl.ErrRange, impl.ErrNotFound
	a20, b20 := strings.Repeat("ab", 10), strings.Repeat("cd", 10)
	for _, c := range []struct {
		s              string
		list           []string
		most           int64
		i, d, wantCode int64
	}{
		{"kinge", []string{"lord", "ring", "kyng"}, 2, 2, 0, none}, {"kinge", []string{"lord"}, 2, 0, 0, far}, {"king", []string{"king"}, 0, 0, 0, none}, {"king", []string{"ring"}, 0, 0, 0, far}, {"king", []string{"ring"}, 1, 0, 1, none},
		{"king", nil, 0, 0, 0, far}, {"king", nil, 20, 0, 0, far}, {"king", []string{}, 5, 0, 0, far}, {"king", nil, -1, 0, 0, bad}, {"king", nil, 21, 0, 0, bad},
		{"king", []string{"ring", "sing", "wing"}, 1, 0, 1, none}, {"king", []string{"lord", "ring", "sing"}, 1, 1, 1, none}, {"king", []string{"lord", "sing", "ring", "king"}, 1, 3, 0, none}, {"king", []string{"king", "king"}, 0, 0, 0, none},
		{"king", []string{"ring", "kyng", "king"}, 3, 1, 0, none}, {"king", []string{"kings", "kyngge", "king"}, 3, 1, 0, none}, {"king", []string{"kin", "kings", "ring"}, 3, 0, 1, none},
		{"w", []string{"uuuu", "v"}, 0, 0, 0, none}, {"vvvv", []string{"a", "wwww"}, 0, 1, 0, none}, {"seale", []string{"sealt", "seal"}, 1, 1, 0, none}, {"seale", []string{"sealt"}, 1, 0, 1, none}, {"wwwwwwww", []string{"wwwwwwwa", "u"}, 4, 1, 0, none},
		{"abcd", []string{"abxy", "abcx", "abcy"}, 2, 1, 1, none}, {"abcd", []string{"abxy", "axyd"}, 2, 0, 2, none}, {"abcd", []string{"abxy", "axyd"}, 1, 0, 0, far}, {"abcd", []string{"wxyz", "abxy"}, 3, 1, 2, none},
		{a20, []string{b20}, 20, 0, 20, none}, {a20, []string{b20}, 19, 0, 0, far}, {a20, []string{b20, "a"}, 20, 1, 19, none}, {a20, []string{"c", "x"}, 20, 0, 20, none}, {a20, []string{"c", "x"}, 19, 0, 0, far}, {"c", []string{a20}, 20, 0, 20, none}, {a20, []string{b20}, 21, 0, 0, bad},
	} {
		if i, d, code := impl.NearestWord(c.s, c.list, c.most); i != c.i || d != c.d || code != c.wantCode {
			t.Errorf("NearestWord(%q, %q, %d) = %d, %d, %d; want %d, %d, %d", c.s, c.list, c.most, i, d, code, c.i, c.d, c.wantCode)
		}
		checkNearest(t, c.s, c.list, c.most)
	}
}

// TestNearestWordsUpToMost has each distance with each most.
func TestNearestWordsUpToMost(t *testing.T) {
	const other = "stuxzstuxzstuxzstuxz"
	for d := range 21 {
		for most := int64(-3); most <= 24; most++ {
			word := other[:d] + wordLetters[:20][d:]
			checkNearest(t, wordLetters[:20], []string{word}, most)
			checkNearest(t, word, []string{wordLetters[:20]}, most)
			checkNearest(t, "bacadafagahakalamana", []string{other, "bacadafagahakalamana"[:20-min(d, 19)]}, most)
		}
	}
	for _, most := range extremes {
		checkNearest(t, "king", []string{"king", "lord"}, most)
		checkNearest(t, "king", nil, most)
		if i, d, code := impl.NearestWord("king", []string{"king"}, most); i != 0 || d != 0 || code != impl.ErrRange {
			t.Errorf("NearestWord with %d = %d, %d, %d", most, i, d, code)
		}
	}
}

// TestNearestWordsOfLongLists has lists of 1, of 60 and of 61 words, with the nearest one at each place, alone and
// several times.
func TestNearestWordsOfLongLists(t *testing.T) {
	for _, count := range []int{1, 2, 59, 60} {
		for k := range count {
			list := numbered(count)
			if i, d, code := impl.NearestWord(list[k], list, 0); i != int64(k) || d != 0 || code != impl.ErrNone {
				t.Errorf("NearestWord(%q) = %d, %d, %d; want %d", list[k], i, d, code, k)
			}
			list[k] = "lorde"
			for _, s := range []string{"lord", "lords", "lor", "ylord"} {
				checkNearest(t, s, list, 2)
			}
			list[count-1] = "lord"
			checkNearest(t, "lord", list, 20)
		}
	}
	for _, count := range []int{61, 62, 100, 256, 317, 65536} {
		list := slices.Repeat([]string{"king"}, count)
		for _, most := range []int64{0, 5, 20, -1, 21} {
			if i, d, code := impl.NearestWord("king", list, most); i != 0 || d != 0 || code != impl.ErrInvalid {
				t.Errorf("NearestWord in %d words = %d, %d, %d", count, i, d, code)
			}
		}
	}
}

// TestErrorsOfNearestWordInOrder has several errors at once: a word that is none is told before a most out of its range,
// and this before an empty or a far list.
func TestErrorsOfNearestWordInOrder(t *testing.T) {
	mosts := append([]int64{0, 1, 20, 21, 22, -2}, extremes...)
	for _, bad := range []string{"", "King", "king1", "abcdefghijklmnopqrstu", "a b", "\x00", "king\xe9"} {
		for _, most := range mosts {
			for _, c := range []struct {
				s    string
				list []string
			}{
				{bad, nil}, {bad, []string{"king"}}, {bad, []string{bad}}, {bad, slices.Repeat([]string{"a"}, 61)}, {"king", []string{bad}}, {"king", []string{"king", bad}}, {"king", []string{bad, "king"}},
				{"king", append(slices.Repeat([]string{"king"}, 59), bad)}, {"king", append(slices.Repeat([]string{"king"}, 60), bad)},
			} {
				if i, d, code := impl.NearestWord(c.s, c.list, most); i != 0 || d != 0 || code != impl.ErrInvalid {
					t.Errorf("NearestWord(%q, %q, %d) = %d, %d, %d", c.s, c.list, most, i, d, code)
				}
			}
		}
	}
	for _, most := range mosts {
		checkNearest(t, "king", nil, most)
		checkNearest(t, "king", []string{"lord"}, most)
		checkNearest(t, "king", []string{"kyng"}, most)
	}
}

func TestRandomNearestWords(t *testing.T) {
	random := rand.New(rand.NewSource(14))
	for i := range 3000 {
		alphabet := []string{"uvwe", "ab", oldLetters}[i%3]
		list := make([]string, random.Intn(12))
		for k := range list {
			list[k] = randomWord(random, alphabet)
			list[k] = list[k][:1+random.Intn(min(len(list[k]), 6))]
		}
		s := randomWord(random, alphabet)
		if i%2 == 0 {
			s = s[:1+random.Intn(min(len(s), 6))]
		}
		checkNearest(t, s, list, int64(random.Intn(8)))
	}
}

// TestKnownPhrases has texts of phrases, and texts with other white space, blanks too many, and words that are none.
func TestKnownPhrases(t *testing.T) {
	for _, c := range []struct {
		s     string
		words []string
	}{
		{"", nil}, {"a", []string{"a"}}, {"given", []string{"given"}}, {"a b", []string{"a", "b"}}, {"given at our seale", []string{"given", "at", "our", "seale"}}, {"a a a", []string{"a", "a", "a"}},
		{"vnder ovr seal", []string{"vnder", "ovr", "seal"}}, {"abcdefghijklmnopqrst a", []string{"abcdefghijklmnopqrst", "a"}}, {"a abcdefghijklmnopqrst", []string{"a", "abcdefghijklmnopqrst"}},
	} {
		words, code := impl.SplitPhrase(c.s)
		if !slices.Equal(words, c.words) || code != impl.ErrNone {
			t.Errorf("SplitPhrase(%q) = %q, %d; want %q", c.s, words, code, c.words)
		}
		if text, code := impl.PhraseText(c.words); text != c.s || code != impl.ErrNone {
			t.Errorf("PhraseText(%q) = %q, %d; want %q", c.words, text, code, c.s)
		}
	}
	for _, s := range []string{
		" ", "  ", "   ", " a", "a ", " a ", "a  b", "a   b", "  a", "a  ", "a b ", " a b", "a b  c", "A", "a1", "1", "a B", "a b1", "given at Our seale", "a,b", "a-b", "a.b", "a b.", "-", "a - b",
		"\t", "\n", "a\tb", "a\nb", "a\rb", "a\vb", "a\fb", "a\n", "\na", "a b\n", "a\t b", "a \tb", "a\u00a0b", "a\u2003b", "a\u3000b", "a\u200bb", "a\u0085b", "a\x85b", "a\xa0b", "a\x00b", "\x00", "a \x00", "a\x00 b", "a \xff", "\xe9 a",
		"abcdefghijklmnopqrstu", "a abcdefghijklmnopqrstu", "abcdefghijklmnopqrstu a", "abcdefghijklmnopqrst  a",
	} {
		checkNoSplit(t, s)
		if _, found := phraseIn(s); found {
			t.Errorf("the reference finds words in %q", s)
		}
	}
}

// TestShortTextsOfPhrases has all texts of up to ten letters and blanks, all of up to five with other bytes among them,
// and each byte at the beginning, in the middle and at the end.
func TestShortTextsOfPhrases(t *testing.T) {
	for _, s := range textsOf("a ", 10) {
		checkSplit(t, s)
	}
	for _, s := range textsOf("az A\t\x00", 5) {
		checkSplit(t, s)
	}
	for b := range 256 {
		one := string([]byte{byte(b)})
		for _, s := range []string{one, "a" + one + "b", one + "a b", "a b" + one, "a " + one + " b", "a " + one + "b", "a" + one + " b", one + one} {
			checkSplit(t, s)
		}
	}
}

// TestLengthsOfPhrases has phrases of 0 to 60 words, of 61 and of more ones, with short and with long words.
func TestLengthsOfPhrases(t *testing.T) {
	for _, word := range []string{"a", "we", "abcdefghijklmnopqrst"} {
		for count := range 130 {
			words := slices.Repeat([]string{word}, count)
			text := strings.Join(words, " ")
			if count > 60 {
				checkNoSplit(t, text)
				checkNoPhrase(t, words)
				continue
			}
			got, code := impl.SplitPhrase(text)
			if !slices.Equal(got, words) || code != impl.ErrNone {
				t.Errorf("SplitPhrase of %d words = %q, %d", count, got, code)
			}
			if s, code := impl.PhraseText(words); s != text || code != impl.ErrNone {
				t.Errorf("PhraseText of %d words = %q, %d", count, s, code)
			}
			checkShared(t, words, words, int64(count))
			checkNoSplit(t, text+" ")
			checkNoSplit(t, " "+text)
		}
	}
	for _, count := range []int{316, 317, 65596, 1 << 20} {
		words := slices.Repeat([]string{"a"}, count)
		split, code := impl.SplitPhrase(strings.Join(words, " "))
		text, codeOfText := impl.PhraseText(words)
		shared, codeOfShared := impl.SharedWords(words, words)
		if len(split) != 0 || code != impl.ErrSyntax || text != "" || codeOfText != impl.ErrInvalid || shared != 0 || codeOfShared != impl.ErrInvalid {
			t.Errorf("%d words: codes %d, %d, %d", count, code, codeOfText, codeOfShared)
		}
	}
}

// TestListsThatAreNoPhrases has an empty word, and words that are none, at each place of lists.
func TestListsThatAreNoPhrases(t *testing.T) {
	for _, bad := range []string{"", " ", "A", "a b", "a1", "a\x00", "\xe9", "abcdefghijklmnopqrstu"} {
		for _, count := range []int{1, 2, 3, 60, 61} {
			for i := range count {
				list := numbered(count)
				list[i] = bad
				checkNoPhrase(t, list)
			}
		}
	}
	checkNoPhrase(t, []string{"", ""})
	checkNoPhrase(t, []string{"a", ""})
	checkNoPhrase(t, []string{"", "a"})
}

func TestRandomPhrases(t *testing.T) {
	random := rand.New(rand.NewSource(15))
	for range 3000 {
		words := make([]string, random.Intn(61))
		for i := range words {
			words[i] = randomWord(random, wordLetters)
		}
		text, code := impl.PhraseText(words)
		if text != strings.Join(words, " ") || code != impl.ErrNone {
			t.Errorf("PhraseText(%q) = %q, %d", words, text, code)
		}
		checkSplit(t, text)
		if text != "" {
			i := random.Intn(len(text))
			checkSplit(t, text[:i]+" "+text[i:])
			checkSplit(t, text[:i]+text[i+1:])
			checkSplit(t, text[:i]+string([]byte{byte(random.Intn(256))})+text[i+1:])
		}
	}
}

// TestKnownSharedWords has empty phrases, equal ones, nothing in common, several common lists of which a longer one
// comes later or earlier, words that are alike, words between others, and repeated words.
func TestKnownSharedWords(t *testing.T) {
	for _, c := range []struct {
		a, b string
		want int64
	}{
		{"", "", 0}, {"", "a", 0}, {"a", "a", 1}, {"a", "b", 0}, {"a b c", "a b c", 3}, {"given at our seale", "vnder ovr seal", 2}, {"a b", "b a", 1}, {"a b c", "d e f", 0}, {"a b c", "c b a", 1},
		{"a b x c d e", "c d e y a b", 3}, {"a b x c d e", "a b y c d e", 3}, {"c d e x a b", "c d e y a b", 3}, {"a x b c y d e f", "d e f z b c z a", 3}, {"a b c d", "x a b c", 3}, {"a b c d", "b c d x", 3}, {"a b c d", "x b c y", 2},
		{"a b c", "a x b x c", 1}, {"a b c d", "a b x c d", 2}, {"a b c", "a c", 1}, {"a b c", "a b", 2}, {"a b c", "b c", 2}, {"a b c", "b", 1}, {"a b c", "c", 1}, {"b", "a b c", 1}, {"a b", "a b a b", 2},
		{"a a a", "a", 1}, {"a a a", "a a", 2}, {"a a a", "a a a a a", 3}, {"a b a b a", "b a b", 3}, {"a b a b a", "a b a c a b a b", 4}, {"a a b", "a b", 2}, {"a b b", "a b", 2}, {"a a b a", "a b a a", 3}, {"a x a", "a a", 1},
		{"king", "kynge", 1}, {"king", "ring", 0}, {"the king", "the kings", 1}, {"vnder our seal", "under ovre seale", 3}, {"w w w", "v uu vv", 3}, {"ye ie", "ie je", 2}, {"we", "w", 0}, {"see", "se", 1}, {"abe abee", "ab abb", 2},
		{"ab c", "a bc", 0}, {"ab", "a b", 0}, {"a b", "ab", 0}, {"aa b", "a b", 2}, {"ab a", "a b a", 1}, {"an", "and", 0}, {"and", "an d", 0}, {"a king", "king a", 1}, {"b c d a b c", "a b c d", 3}, {"b c d a b c", "d a b", 3},
	} {
		a, found := phraseIn(c.a)
		b, foundToo := phraseIn(c.b)
		if !found || !foundToo || sharedOf(a, b) != c.want {
			t.Errorf("the reference tells %d for %q and %q", sharedOf(a, b), c.a, c.b)
		}
		checkShared(t, a, b, c.want)
	}
}

// TestSharedWordsOfShortPhrases has all pairs of phrases of up to four words, two of which are alike.
func TestSharedWordsOfShortPhrases(t *testing.T) {
	var phrases [][]string
	for _, letters := range textsOf("uvk", 4) {
		phrases = append(phrases, strings.Split(letters, "")[:len(letters)])
	}
	for _, a := range phrases {
		for _, b := range phrases {
			checkShared(t, a, b, sharedOf(a, b))
		}
	}
}

// TestSharedWordsOfLongPhrases has one common list of each length at the beginning, in the middle and at the end, also
// of phrases of 60 words, and random phrases of words that are often alike.
func TestSharedWordsOfLongPhrases(t *testing.T) {
	words := numbered(60)
	others := slices.Repeat([]string{"z"}, 60)
	for length := 1; length <= 60; length++ {
		for _, from := range []int{0, (60 - length) / 2, 60 - length} {
			for _, to := range []int{0, (60 - length) / 3, 60 - length} {
				b := slices.Clone(others)
				copy(b[to:], words[from:from+length])
				checkShared(t, words, b, int64(length))
				checkShared(t, words[from:from+length], b, int64(length))
			}
		}
	}
	checkShared(t, words, others, 0)
	random := rand.New(rand.NewSource(16))
	for i := range 1500 {
		var pair [2][]string
		for side := range pair {
			pair[side] = make([]string, random.Intn([]int{8, 20, 61}[i%3]))
			for k := range pair[side] {
				pair[side][k] = alikeWord(random, []string{"king", "seal", "our", "under", "u", "i"}[random.Intn(2+i%5)])
			}
		}
		checkShared(t, pair[0], pair[1], sharedOf(pair[0], pair[1]))
	}
}

// wordGuard keeps a list of words with spare capacity behind it, and what both held at first. All words stand in one
// memory of their own.
type wordGuard struct {
	list   []string
	whole  []string
	first  []string
	memory []byte
}

func guardedWords(words ...string) *wordGuard {
	g := &wordGuard{memory: []byte(strings.Join(words, " ") + " ")}
	from := 0
	for _, word := range words {
		if len(word) > 0 {
			g.whole = append(g.whole, unsafe.String(&g.memory[from], len(word)))
		} else {
			g.whole = append(g.whole, "")
		}
		from += len(word) + 1
	}
	for k := range 5 {
		g.whole = append(g.whole, fmt.Sprintf("spare%d", k))
	}
	g.list = g.whole[:len(words)]
	for _, word := range g.whole {
		g.first = append(g.first, strings.Clone(word))
	}
	return g
}

// text tells all words of the list, separated by blanks, as a part of their memory.
func (g *wordGuard) text() string {
	if len(g.list) == 0 {
		return ""
	}
	return unsafe.String(&g.memory[0], len(g.memory)-1)
}

// check tells whether something was written into the list or behind it, and whether results share its memory.
func (g *wordGuard) check(t *testing.T, what string, results ...string) {
	t.Helper()
	if !slices.Equal(g.whole, g.first) {
		t.Errorf("%s: %q has become %q", what, g.first, g.whole)
	}
	for _, s := range results {
		if len(s) == 0 || len(g.memory) == 0 {
			continue
		}
		begin, end := uintptr(unsafe.Pointer(&g.memory[0])), uintptr(unsafe.Pointer(&g.memory[len(g.memory)-1]))
		if at := uintptr(unsafe.Pointer(unsafe.StringData(s))); at >= begin && at <= end {
			t.Errorf("%s: %q shares memory with an argument", what, s)
		}
	}
}

// TestArgumentsOfWordFunctions calls each function with words and lists that have spare capacity, with good and with bad
// ones: these must stay as they were, and no result may share their memory.
func TestArgumentsOfWordFunctions(t *testing.T) {
	for _, words := range [][]string{
		{}, {"a"}, {"king"}, {"kynge", "seale"}, {"given", "at", "our", "seal"}, {"vvitnesse", "a", "b", "a", "vvitnesse"}, numbered(60), numbered(61), {"a", ""}, {"King", "lord"}, {"lord", "king1"}, {"abcdefghijklmnopqrst", "abcdefghijklmnopqrstu"},
	} {
		g, h := guardedWords(words...), guardedWords(words...)
		for _, word := range g.list {
			form, _ := impl.NormalWord(word)
			impl.IsWord(word)
			impl.WordDistance(word, g.list[0])
			impl.AreAlike(word, g.list[0])
			impl.NearestWord(word, g.list, 3)
			g.check(t, "a function of words", form)
		}
		impl.SharedWords(g.list, h.list)
		impl.SharedWords(g.list, g.list)
		impl.SharedWords(g.list[len(words)/2:], g.list[:len(words)/2])
		text, _ := impl.PhraseText(g.list)
		g.check(t, "a function of phrases", text)
		h.check(t, "SharedWords")
		split, code := impl.SplitPhrase(g.text())
		g.check(t, "SplitPhrase", split...)
		want := slices.Clone(split)
		for i := range split[:cap(split)] {
			split[:cap(split)][i] = "spoiled"
		}
		again, codeAgain := impl.SplitPhrase(g.text())
		if !slices.Equal(again, want) || codeAgain != code {
			t.Errorf("SplitPhrase(%q) = %q, then %q", g.text(), want, again)
		}
		g.check(t, "SplitPhrase", again...)
	}
}

// TestWordsAtOnce asks from several goroutines at once, as no call may depend on another one.
func TestWordsAtOnce(t *testing.T) {
	list := []string{"given", "vnder", "ovr", "seale", "kynge", "lord"}
	var group sync.WaitGroup
	for first := range 8 {
		group.Go(func() {
			random := rand.New(rand.NewSource(int64(first)))
			for range 300 {
				a, b := randomWord(random, oldLetters), randomWord(random, oldLetters)
				checkNormal(t, a)
				checkDistance(t, a, b, distanceOf(a, b))
				checkAlike(t, a, b, normalOf(a) == normalOf(b))
				checkNearest(t, a, append(list[:3:3], b), 20)
				checkSplit(t, a+" "+b)
				checkShared(t, []string{a, b, "seal"}, []string{b, "sealle", a}, sharedOf([]string{a, b, "seal"}, []string{b, "sealle", a}))
			}
		})
	}
	group.Wait()
}
