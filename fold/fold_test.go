package fold_test

import (
	"math/rand"
	"strings"
	"sync"
	"testing"
	"unicode/utf8"

	"kalends/fold"
	"kalends/locale"
)

// The letters as chapter 10 lists them, in its order.
const (
	upperLetters = "ABCDEFGHIJKLMNOPQRSTUVWXYZ" + "ÀÂÄÆÇÈÉÊËÎÏÔÖŒÙÛÜŸĄĆĘŁŃÓŚŹŻ"
	lowerLetters = "abcdefghijklmnopqrstuvwxyz" + "àâäæçèéêëîïôöœùûüÿąćęłńóśźż"
)

// lowerOf: the lower-case letter of each upper-case one, by the chapter's two lists.
func lowerOf(t *testing.T) map[rune]rune {
	t.Helper()
	upper, lower := []rune(upperLetters), []rune(lowerLetters)
	if len(upper) != 26+27 || len(lower) != len(upper) {
		t.Fatalf("%d upper-case letters, %d lower-case ones", len(upper), len(lower))
	}
	of := map[rune]rune{}
	for i, r := range upper {
		of[r] = lower[i]
	}
	return of
}

func smalls(t *testing.T, s, want string) {
	t.Helper()
	if got := fold.Small(s); got != want {
		t.Errorf("Small(%.80q) = %.80q, want %.80q", s, got, want)
	}
}

func isBad(t *testing.T, s string, want int) {
	t.Helper()
	if got := fold.Bad(s); got != want {
		t.Errorf("Bad(%.80q) = %d, want %d", s, got, want)
	}
}

// P10.1: every letter alone and all of them in a row; the code points written out, for letters that look alike.
func TestSmallOfLetters(t *testing.T) {
	smalls(t, upperLetters, lowerLetters)
	smalls(t, lowerLetters, lowerLetters)
	smalls(t, "\u00C0\u00C2\u00C4\u00C6\u00C7\u00C8\u00C9\u00CA\u00CB\u00CE\u00CF\u00D4\u00D6\u0152\u00D9\u00DB\u00DC\u0178", "\u00E0\u00E2\u00E4\u00E6\u00E7\u00E8\u00E9\u00EA\u00EB\u00EE\u00EF\u00F4\u00F6\u0153\u00F9\u00FB\u00FC\u00FF")
	smalls(t, "\u0104\u0106\u0118\u0141\u0143\u00D3\u015A\u0179\u017B", "\u0105\u0107\u0119\u0142\u0144\u00F3\u015B\u017A\u017C")
	for upper, lower := range lowerOf(t) {
		smalls(t, string(upper), string(lower))
	}
}

// P10.1: what isn't a letter of the list is unchanged, upper-case letters of other lists among it.
func TestSmallOfOtherRunes(t *testing.T) {
	for _, s := range []string{
		"", " ", "0123456789", "@[`{", "\x00\x01\x7f", "\t\r\n", ",.-'", "ß", "ẞ", "×÷", "\ufffd", "\ufeff", "\u0080\u009f\u00a0",
		"ÁÃÅÌÍÐÑÒÕØÚÝÞ", "ĀĂĈĊČĎĐĒĖĚĞİıĶĽŇŐŘŞŠŤŰŮŽ", "ΑΒΓΩ", "АБВЯ", "ǅǇ", "ＡＢＣ", "𝐀𝐁", "𐐀", "ⅠⅡ", "Ⓐ", "ſ", "\u212a\u212b\u2126", "\u0300\u0301\u0308\u0328", "日本語", "🗓", "\U0010ffff",
	} {
		smalls(t, s, s)
	}
	// A letter and a mark after it are two runes; the letter alone is changed.
	smalls(t, "A\u0300O\u0308Z\u0307", "a\u0300o\u0308z\u0307")
}

// P10.1: rune by rune, of all that there are, alone and between others.
func TestSmallOfEveryRune(t *testing.T) {
	lower := lowerOf(t)
	for r := rune(0); r <= utf8.MaxRune; r++ {
		if !utf8.ValidRune(r) {
			continue
		}
		want := r
		if l, ok := lower[r]; ok {
			want = l
		}
		smalls(t, string(r), string(want))
		if r < 0x3000 {
			smalls(t, "É"+string(r)+"É", "é"+string(want)+"é")
		}
		isBad(t, string(r), -1)
	}
}

// P10.1
func TestSmallOfPhrases(t *testing.T) {
	for s, want := range map[string]string{
		"MÄRZ":                          "märz",
		"Every Other Tuesday":           "every other tuesday",
		"EVERY  2nd\tDAY, On The 1ST":   "every  2nd\tday, on the 1st",
		"JEDEN ZWEITEN TAG BIS ZUM 3.":  "jeden zweiten tag bis zum 3.",
		"Alle 2 Wochen Übermäßig GROSS": "alle 2 wochen übermäßig gross",
		"JUSQU'AU 1ER AOÛT, DÉCEMBRE":   "jusqu'au 1er août, décembre",
		"ŒUVRE L'HAŸ NOËL ÇÀ":           "œuvre l'haÿ noël çà",
		"KAŻDĄ ŚRODĘ W PAŹDZIERNIKU":    "każdą środę w październiku",
		"ZAŻÓŁĆ GĘŚLĄ JAŹŃ":             "zażółć gęślą jaźń",
		"İSTANBUL ÅÁ":                   "İstanbul ÅÁ",
		"2026-11-16":                    "2026-11-16",
	} {
		smalls(t, s, want)
	}
}

// P10.1: the words of the four languages are in lower case, and are what their upper case becomes; chapter 11 compares them so.
func TestSmallOfWords(t *testing.T) {
	upper := map[rune]rune{}
	for u, l := range lowerOf(t) {
		upper[l] = u
	}
	big := func(r rune) rune {
		if u, ok := upper[r]; ok {
			return u
		}
		return r
	}
	for _, x := range locale.All() {
		for _, words := range x.Words {
			for _, w := range words {
				smalls(t, w, w)
				smalls(t, strings.Map(big, w), w)
				isBad(t, w, -1)
			}
		}
	}
}

// small: what Small returns for a text, rune by rune from the chapter's lists.
func small(lower map[rune]rune, runes []rune) string {
	var b strings.Builder
	for _, r := range runes {
		if l, ok := lower[r]; ok {
			r = l
		}
		b.WriteRune(r)
	}
	return b.String()
}

// P10.1: long texts of runes of all sizes; the result has the same number of bytes, its runes stand where they stood, and it stays itself.
func TestSmallOfMixedTexts(t *testing.T) {
	lower := lowerOf(t)
	letters := []rune(upperLetters + lowerLetters + " ,.1Áßİſ\u0308\u212a日\ufffd🗓\U0010ffff\x00")
	r := rand.New(rand.NewSource(10))
	for n := range 3000 {
		runes := make([]rune, n)
		for i := range runes {
			runes[i] = letters[r.Intn(len(letters))]
		}
		s := string(runes)
		got := fold.Small(s)
		if got != small(lower, runes) {
			t.Fatalf("Small(%q) = %q", s, got)
		}
		if len(got) != len(s) || fold.Bad(s) != -1 || fold.Bad(got) != -1 {
			t.Fatalf("Small(%q) has %d bytes, want %d; bad at %d and %d", s, len(got), len(s), fold.Bad(s), fold.Bad(got))
		}
		smalls(t, got, got)
	}
}

// P10.1: texts with a bad byte, each alone, after others and before others.
func TestBad(t *testing.T) {
	faults := []string{
		"\x80", "\xbf", // no first byte
		"\xc0", "\xc1", "\xf5", "\xf8", "\xfc", "\xfe", "\xff", // bytes that no encoding has
		"\xc3", "\xe2", "\xe2\x82", "\xf0", "\xf0\x9f", "\xf0\x9f\x97", // too short
		"\xc0\x80", "\xc1\xbf", "\xe0\x80\x80", "\xe0\x9f\xbf", "\xf0\x80\x80\x80", "\xf0\x8f\xbf\xbf", // overlong
		"\xed\xa0\x80", "\xed\xaf\xbf", "\xed\xb0\x80", "\xed\xbf\xbf", "\xed\xa0\xbd\xed\xb8\x80", // surrogates
		"\xf4\x90\x80\x80", "\xf7\xbf\xbf\xbf", "\xf8\x88\x80\x80\x80", "\xfc\x84\x80\x80\x80\x80", // greater than the greatest rune
	}
	for _, fault := range faults {
		for _, before := range []string{"", "a", "ok ", "é", "\ufffd", "日本", "🗓", "\x00", "\u07ff\uffff\U0010ffff", strings.Repeat("ż", 3000)} {
			for _, after := range []string{"", "a", " É", "\ufffd", "\xff", "\xc3"} {
				isBad(t, before+fault+after, len(before))
			}
		}
	}
}

// P10.1: a text is good with runes of all sizes, the least and the greatest of each among them, and with U+FFFD, which decoders give for bad bytes.
func TestBadOfNone(t *testing.T) {
	for _, s := range []string{
		"", "\x00", "\x7f", "\u0080", "\u07ff", "\u0800", "\ud7ff", "\ue000", "\ufffd", "\ufffe\uffff", "\U00010000", "\U0010ffff",
		"\ufffd\ufffd", "a\ufffdb", "aé", "every other tuesday", "päivä", "日本語 🗓", "\ufeffa", "A\u0300", strings.Repeat("é", 100000),
	} {
		isBad(t, s, -1)
	}
}

// encoded: how many bytes the encoding has that a text begins with; 0 of none. (By the byte ranges of RFC 3629's grammar.)
func encoded(s string) int {
	ranges := [][]string{ // of the bytes one after the other
		{"\x00\x7f"},
		{"\xc2\xdf", "\x80\xbf"},
		{"\xe0\xe0", "\xa0\xbf", "\x80\xbf"},
		{"\xe1\xec", "\x80\xbf", "\x80\xbf"},
		{"\xed\xed", "\x80\x9f", "\x80\xbf"},
		{"\xee\xef", "\x80\xbf", "\x80\xbf"},
		{"\xf0\xf0", "\x90\xbf", "\x80\xbf", "\x80\xbf"},
		{"\xf1\xf3", "\x80\xbf", "\x80\xbf", "\x80\xbf"},
		{"\xf4\xf4", "\x80\x8f", "\x80\xbf", "\x80\xbf"},
	}
	for _, row := range ranges {
		i := 0
		for i < len(row) && i < len(s) && row[i][0] <= s[i] && s[i] <= row[i][1] {
			i++
		}
		if i == len(row) {
			return i
		}
	}
	return 0
}

// badByGrammar: what Bad returns, by encoded.
func badByGrammar(s string) int {
	for at := 0; at < len(s); {
		n := encoded(s[at:])
		if n == 0 {
			return at
		}
		at += n
	}
	return -1
}

// P10.1: all texts of up to four of the bytes at which the ranges of encodings begin and end.
func TestBadOfShortTexts(t *testing.T) {
	ends := "\x00A\x7f\x80\x8f\x90\x9f\xa0\xbf\xc0\xc1\xc2\xdf\xe0\xe1\xec\xed\xee\xef\xf0\xf1\xf3\xf4\xf5\xff"
	good, bad := 0, 0
	var from func(s string)
	from = func(s string) {
		want := badByGrammar(s)
		if want < 0 {
			good++
		} else {
			bad++
		}
		isBad(t, s, want)
		if len(s) < 4 {
			for i := range len(ends) {
				from(s + ends[i:i+1])
			}
		}
	}
	from("")
	if good < 100 || bad < 100000 {
		t.Errorf("%d good texts, %d bad ones", good, bad)
	}
}

// P10.1: all texts of up to two bytes, alone and after a letter of two.
func TestBadOfEveryByte(t *testing.T) {
	for a := range 256 {
		one := string([]byte{byte(a)})
		isBad(t, one, badByGrammar(one))
		for b := range 256 {
			two := one + string([]byte{byte(b)})
			isBad(t, two, badByGrammar(two))
			isBad(t, "Ż"+two, badByGrammar("Ż"+two))
		}
	}
}

// oddTexts: texts of all sorts, bad ones among them.
func oddTexts() []string {
	r := rand.New(rand.NewSource(100))
	list := []string{"", "\xff", "\xc3", "A\xc3", "\xc3A", "\xc5\xc5\xb8", "\xed\xa0\x80Z", strings.Repeat("A", 1<<20), strings.Repeat("\xff", 1<<16), strings.Repeat("Ÿ", 1<<16) + "\xc5"}
	for n := range 400 {
		b := make([]byte, n)
		for i := range b {
			b[i] = byte(r.Intn(256))
		}
		list = append(list, string(b))
	}
	return list
}

// P1, R7: of texts with a bad byte nothing more is promised than that the functions return; here the other runes' letters are changed all the same, and no byte is lost.
func TestAnyTexts(t *testing.T) {
	for _, s := range oddTexts() {
		isBad(t, s, badByGrammar(s))
		if got := fold.Small(s); len(got) != len(s) {
			t.Errorf("Small(%.80q) has %d bytes, want %d", s, len(got), len(s))
		}
	}
	smalls(t, "A\xc3B\xffÉ\xc5", "a\xc3b\xffé\xc5")
}

// R6: a second call answers as the first one, and so do calls that run at once.
func TestSameAgain(t *testing.T) {
	texts := append(oddTexts(), upperLetters, lowerLetters, "MÄRZ", "\ufffd")
	var smallOnes []string
	var offsets []int
	for _, s := range texts {
		smallOnes, offsets = append(smallOnes, fold.Small(s)), append(offsets, fold.Bad(s))
	}
	var all sync.WaitGroup
	for range 8 {
		all.Add(1)
		go func() {
			defer all.Done()
			for i, s := range texts {
				if fold.Small(s) != smallOnes[i] || fold.Bad(s) != offsets[i] {
					t.Errorf("%.80q: another answer than the first one", s)
				}
			}
		}()
	}
	all.Wait()
}

func FuzzFold(f *testing.F) { // P10.1, P1
	for _, s := range []string{"", "MÄRZ", "ÀŻ Zß1Ÿ", "\ufffd", "a\xc3", "\xed\xa0\x80", "ok\xf5"} {
		f.Add(s)
	}
	f.Fuzz(func(t *testing.T, s string) {
		isBad(t, s, badByGrammar(s))
		got := fold.Small(s)
		if len(got) != len(s) {
			t.Errorf("Small(%q) = %q", s, got)
		}
		if fold.Bad(s) == -1 {
			smalls(t, s, small(lowerOf(t), []rune(s)))
		}
	})
}
