package plural_test

import (
	"math"
	"math/rand"
	"slices"
	"strconv"
	"strings"
	"testing"

	"kalends/plural"
)

// The greatest int ends in 07: many in Polish, th in English.
const greatest = math.MaxInt

var (
	allKinds  = []plural.Kind{plural.Two, plural.French, plural.Polish}
	allStyles = []plural.Style{plural.English, plural.Er, plural.Point}
)

// The numbers of the kinds and of the styles, which other programs may have written down.
func TestNumbers(t *testing.T) {
	if plural.Two != 0 || plural.French != 1 || plural.Polish != 2 || plural.Kinds != 3 {
		t.Error("the kinds are not numbered from 0 in their order")
	}
	if plural.English != 0 || plural.Er != 1 || plural.Point != 2 || plural.Styles != 3 {
		t.Error("the styles are not numbered from 0 in their order")
	}
}

// P7.1
func TestForm(t *testing.T) {
	for _, x := range []struct{ n, two, french, polish int }{
		{0, 1, 0, 2}, {1, 0, 0, 0}, {2, 1, 1, 1}, {3, 1, 1, 1}, {4, 1, 1, 1}, {5, 1, 1, 2}, {6, 1, 1, 2}, {9, 1, 1, 2},
		{10, 1, 1, 2}, {11, 1, 1, 2}, {12, 1, 1, 2}, {13, 1, 1, 2}, {14, 1, 1, 2}, {15, 1, 1, 2}, {19, 1, 1, 2}, {20, 1, 1, 2},
		{21, 1, 1, 2}, {22, 1, 1, 1}, {23, 1, 1, 1}, {24, 1, 1, 1}, {25, 1, 1, 2}, {31, 1, 1, 2}, {32, 1, 1, 1}, {92, 1, 1, 1},
		{100, 1, 1, 2}, {101, 1, 1, 2}, {102, 1, 1, 1}, {103, 1, 1, 1}, {104, 1, 1, 1}, {105, 1, 1, 2}, {106, 1, 1, 2}, {107, 1, 1, 2},
		{108, 1, 1, 2}, {109, 1, 1, 2}, {110, 1, 1, 2}, {111, 1, 1, 2}, {112, 1, 1, 2}, {113, 1, 1, 2}, {114, 1, 1, 2}, {115, 1, 1, 2},
		{121, 1, 1, 2}, {122, 1, 1, 1}, {124, 1, 1, 1}, {125, 1, 1, 2}, {202, 1, 1, 1}, {212, 1, 1, 2}, {1000, 1, 1, 2}, {1001, 1, 1, 2},
		{1002, 1, 1, 1}, {1012, 1, 1, 2}, {1013, 1, 1, 2}, {1014, 1, 1, 2}, {1112, 1, 1, 2}, {1122, 1, 1, 1}, {1204, 1, 1, 1},
		{1 << 32, 1, 1, 2}, {1<<32 + 1, 1, 1, 2}, {greatest, 1, 1, 2}, {greatest - 3, 1, 1, 1}, {greatest - 5, 1, 1, 1}, {greatest - 93, 1, 1, 2},
	} {
		got := [3]int{plural.Two.Form(x.n), plural.French.Form(x.n), plural.Polish.Form(x.n)}
		if want := [3]int{x.two, x.french, x.polish}; got != want {
			t.Errorf("the forms of %d are %v, want %v", x.n, got, want)
		}
	}
}

// formByText: the form of a number, by the text of it.
func formByText(k plural.Kind, n int) int {
	text := strconv.Itoa(n)
	ends := func(list ...string) bool {
		return slices.ContainsFunc(list, func(end string) bool { return strings.HasSuffix(text, end) })
	}
	switch k {
	case plural.Two:
		return 1 - strings.Count(" 1 ", " "+text+" ")
	case plural.French:
		return 1 - strings.Count(" 0  1 ", " "+text+" ")
	}
	if text == "1" {
		return 0
	}
	if ends("2", "3", "4") && !ends("12", "13", "14") {
		return 1
	}
	return 2
}

// someNumbers: not negative: the small ones, those about the powers of 10 and of 2, the greatest, and others.
func someNumbers() (list []int) {
	for n := range 3000 {
		list = append(list, n, greatest-n)
	}
	for power := 1000; power < greatest/10; power *= 10 {
		for n := -30; n <= 130; n++ {
			list = append(list, power+n)
		}
	}
	for bits := 12; bits < 63; bits++ {
		for n := -30; n <= 130; n++ {
			list = append(list, 1<<bits+n)
		}
	}
	r := rand.New(rand.NewSource(7))
	for range 3000 {
		list = append(list, r.Intn(100000), r.Int(), r.Int()>>r.Intn(63))
	}
	return slices.DeleteFunc(list, func(n int) bool { return n < 0 })
}

// P7.1
func TestFormOfMany(t *testing.T) {
	for _, n := range someNumbers() {
		for _, k := range allKinds {
			if got, want := k.Form(n), formByText(k, n); got != want {
				t.Fatalf("Kind(%d).Form(%d) = %d, want %d", k, n, got, want)
			}
		}
	}
}

// ordinals: of numbers in a row, written out.
type ordinals struct {
	style plural.Style
	first int
	texts string
}

var writtenOut = []ordinals{
	{plural.English, 1, "1st 2nd 3rd 4th 5th 6th 7th 8th 9th 10th 11th 12th 13th 14th 15th 16th 17th 18th 19th 20th 21st 22nd 23rd 24th 25th"},
	{plural.English, 30, "30th 31st 32nd 33rd 34th"},
	{plural.English, 100, "100th 101st 102nd 103rd 104th 105th 106th 107th 108th 109th 110th 111th 112th 113th 114th 115th 116th 117th 118th 119th 120th 121st 122nd 123rd 124th 125th"},
	{plural.English, 211, "211th 212th 213th"},
	{plural.English, 1000, "1000th 1001st 1002nd 1003rd 1004th 1005th 1006th 1007th 1008th 1009th 1010th 1011th 1012th 1013th"},
	{plural.English, 1111, "1111th 1112th 1113th 1114th 1115th 1116th 1117th 1118th 1119th 1120th 1121st 1122nd 1123rd"},
	{plural.English, 9223372036854775801, "9223372036854775801st 9223372036854775802nd 9223372036854775803rd 9223372036854775804th 9223372036854775805th 9223372036854775806th 9223372036854775807th"},
	{plural.Er, 1, "1er 2e 3e 4e 5e 6e 7e 8e 9e 10e 11e 12e 13e 14e 15e 16e 17e 18e 19e 20e 21e 22e 23e 24e 25e"},
	{plural.Er, 100, "100e 101e 102e 103e 104e 105e 106e 107e 108e 109e 110e 111e 112e 113e 114e 115e 116e 117e 118e 119e 120e 121e 122e 123e 124e 125e"},
	{plural.Er, 1000, "1000e 1001e 1002e 1003e 1004e 1005e 1006e 1007e 1008e 1009e 1010e 1011e 1012e 1013e"},
	{plural.Er, 9223372036854775801, "9223372036854775801e 9223372036854775802e 9223372036854775803e 9223372036854775804e 9223372036854775805e 9223372036854775806e 9223372036854775807e"},
	{plural.Point, 1, "1. 2. 3. 4. 5. 6. 7. 8. 9. 10. 11. 12. 13. 14. 15. 16. 17. 18. 19. 20. 21. 22. 23. 24. 25."},
	{plural.Point, 100, "100. 101. 102. 103. 104. 105. 106. 107. 108. 109. 110. 111. 112. 113. 114. 115. 116. 117. 118. 119. 120. 121. 122. 123. 124. 125."},
	{plural.Point, 1000, "1000. 1001. 1002. 1003. 1004. 1005. 1006. 1007. 1008. 1009. 1010. 1011. 1012. 1013."},
	{plural.Point, 9223372036854775801, "9223372036854775801. 9223372036854775802. 9223372036854775803. 9223372036854775804. 9223372036854775805. 9223372036854775806. 9223372036854775807."},
}

func reads(t *testing.T, s plural.Style, text string, most, want int, ok bool) {
	t.Helper()
	if got, is := s.Read(text, most); got != want || is != ok {
		t.Errorf("Style(%d).Read(%q, %d) = %d %t, want %d %t", s, text, most, got, is, want, ok)
	}
}

// P7.2
func TestOrdinal(t *testing.T) {
	for _, x := range writtenOut {
		for i, text := range strings.Fields(x.texts) {
			if got := x.style.Ordinal(x.first + i); got != text {
				t.Errorf("Style(%d).Ordinal(%d) = %q, want %q", x.style, x.first+i, got, text)
			}
		}
	}
}

// P7.2: an ordinal is read where most reaches its number, and not where it doesn't.
func TestRead(t *testing.T) {
	for _, x := range writtenOut {
		for i, text := range strings.Fields(x.texts) {
			n := x.first + i
			for _, most := range []int{n, max(n, 366), max(n, 1<<40), greatest} {
				reads(t, x.style, text, most, n, true)
			}
			for _, most := range []int{n - 1, n / 2, 0, -1, -n, math.MinInt} {
				reads(t, x.style, text, most, 0, false)
			}
		}
	}
}

// notOrdinals: the texts that are an ordinal of no number in a style.
func notOrdinals(s plural.Style) []string {
	list := []string{
		// nothing, an ending alone, digits alone
		"", "st", "nd", "rd", "th", "er", "e", ".", "0", "1", "2", "3", "11", "21", "9223372036854775807", "9223372036854775808",
		// endings of no style
		"1s", "1t", "1h", "2n", "3r", "4t", "1E", "1ER", "1Er", "1eR", "1ST", "1St", "2ND", "3RD", "4TH", "1re", "2ème", "2r", "1°", "1º", "1,", "1:",
		"1..", "1e.", "1st.", "1.st", "1.e", "1.er", "1ste", "2ee", "4the", "4thth", "1stst", "1ere", "1eer", "2er", "11er", "21er", "101er", "1e",
		// wrong endings of English
		"1th", "2th", "3th", "1nd", "1rd", "2st", "2rd", "3st", "3nd", "4st", "4nd", "4rd", "10st", "11st", "12nd", "13rd", "12st", "11nd", "21th", "22th", "23th",
		"22st", "20st", "24rd", "100st", "111st", "112nd", "113rd", "101th", "121th", "1011st", "1012nd", "1013rd", "1001th", "9223372036854775807st",
		// nought, leading zeros, signs
		"0th", "0st", "0e", "0er", "0.", "00th", "00.", "01st", "01er", "01.", "02e", "02nd", "011th", "0011th", "0011e", "0011.", "007.",
		"+1st", "+1er", "+2e", "+1.", "-1st", "-1th", "-1er", "-1e", "-2e", "-1.", "--1.", "-9223372036854775808.", "-9223372036854775808e", "-9223372036854775808th",
		// blanks, and others that are no digit
		" ", " 1st", "1st ", "1 st", "1s t", " 1er", "1er ", "1 er", " 2e", "2e ", "2 e", " 1.", "1. ", "1 .", "\t1.", "1.\n", "1.\x00", "\x001.", "1\x00.",
		"1_0.", "1_0e", "1_0th", "1,000th", "1.000.", "1 000e", "0x1.", "0b1e", "1e2e", "1.5.", "x1st", "x2e", "x1.", "1x.", "st1", "e2", ".1", "1st2nd", "2e3e", "1.2.",
		"１.", "١.", "１st", "２e", "1．", "①", "1ˢᵗ", "\xff", "1\xff", "\xff1.", "1.\xff", "1st\xff", "2e\xff", "/.", ":.", "/e", ":e", "/th", ":th",
		// digits too many for an int
		"9223372036854775808th", "9223372036854775808e", "9223372036854775808.", "18446744073709551617st", "18446744073709551617er", "18446744073709551617e", "18446744073709551617.",
		"18446744073709551618e", "18446744073709551627.", "99999999999999999999.", "10000000000000000000000e", strings.Repeat("9", 5000) + "th", strings.Repeat("9", 5000) + "e",
		strings.Repeat("9", 5000) + ".", strings.Repeat("0", 5000) + "1st", strings.Repeat("0", 5000) + "1er", strings.Repeat("0", 5000) + "1.", strings.Repeat("7", 5000),
		// something behind the ending
		"1st,", "1sts", "2nds", "4ths", "1er,", "2es", "1.a", "4th 5th", "1er e", "1st st",
	}
	for _, x := range writtenOut {
		for _, text := range strings.Fields(x.texts) {
			if x.style != s {
				list = append(list, text)
			}
			list = append(list, "0"+text, "+"+text, "-"+text, " "+text, text+" ", text+text, text+"0", text[:len(text)-1]+" ")
		}
	}
	return list
}

// P7.2
func TestReadOfNone(t *testing.T) {
	for _, s := range allStyles {
		for _, text := range notOrdinals(s) {
			for _, most := range []int{greatest, 1 << 32, 1000, 1, 0, -1, math.MinInt} {
				reads(t, s, text, most, 0, false)
			}
		}
	}
}

// P7.2: each style reads what it writes; what another style writes, it doesn't read.
func TestReadOfOrdinal(t *testing.T) {
	for _, n := range someNumbers() {
		if n == 0 {
			continue
		}
		for _, s := range allStyles {
			text := s.Ordinal(n)
			if digits := strconv.Itoa(n); !strings.HasPrefix(text, digits) || strings.ContainsAny(text[len(digits):], "0123456789") {
				t.Fatalf("Style(%d).Ordinal(%d) = %q, which hasn't just its digits", s, n, text)
			}
			reads(t, s, text, n, n, true)
			reads(t, s, text, greatest, n, true)
			reads(t, s, text, n-1, 0, false)
			for _, other := range allStyles {
				if other != s {
					reads(t, other, text, greatest, 0, false)
				}
			}
		}
	}
}

// P7.2: of all short texts of some letters, those are read that are the ordinal of a number to most.
func TestReadOfShortTexts(t *testing.T) {
	const most = 113
	want := make([]map[string]int, plural.Styles)
	for _, s := range allStyles {
		want[s] = map[string]int{}
		for n := 1; n <= most; n++ {
			want[s][s.Ordinal(n)] = n
		}
	}
	texts := []string{""}
	for i := 0; i < len(texts); i++ {
		for _, s := range allStyles {
			n, ok := want[s][texts[i]]
			reads(t, s, texts[i], most, n, ok)
		}
		if len(texts[i]) < 5 {
			for _, c := range "0123sthnde.r- " {
				texts = append(texts, texts[i]+string(c))
			}
		}
	}
}

// P7.3
func TestJoin(t *testing.T) {
	for _, x := range []struct {
		list []string
		and  string
		want string
	}{
		{nil, "and", ""},
		{[]string{}, "and", ""},
		{nil, "", ""},
		{[]string{"a"}, "and", "a"},
		{[]string{"a"}, "", "a"},
		{[]string{"a", "b"}, "and", "a and b"},
		{[]string{"a", "b", "c"}, "and", "a, b and c"},
		{[]string{"a", "b", "c", "d"}, "und", "a, b, c und d"},
		{[]string{"Mo", "Di", "Mi", "Do", "Fr", "Sa", "So"}, "und", "Mo, Di, Mi, Do, Fr, Sa und So"},
		{[]string{"1er", "2e"}, "et", "1er et 2e"},
		{[]string{"środa", "piątek"}, "i", "środa i piątek"},
		{[]string{""}, "and", ""},
		{[]string{"", ""}, "and", " and "},
		{[]string{"", "", ""}, "and", ",  and "},
		{[]string{"", "", "", ""}, "", ", ,   "},
		{[]string{"a", ""}, "and", "a and "},
		{[]string{"", "b"}, "and", " and b"},
		{[]string{"", "b", "c"}, "and", ", b and c"},
		{[]string{"a", "", "c"}, "and", "a,  and c"},
		{[]string{"a", "b", ""}, "and", "a, b and "},
		{[]string{"a", "b"}, "", "a  b"},
		{[]string{"a", "b", "c"}, "", "a, b  c"},
		{[]string{"a, b", " and ", "c"}, "and", "a, b,  and  and c"},
		{[]string{" a ", " b "}, " and ", " a   and   b "},
		{[]string{"a", "a", "a"}, ",", "a, a , a"},
		{[]string{"a", "b", "c"}, "as well as", "a, b as well as c"},
		{[]string{"\xff", "\x00", "b"}, "\xfe", "\xff, \x00 \xfe b"},
	} {
		if got := plural.Join(x.list, x.and); got != x.want {
			t.Errorf("Join(%q, %q) = %q, want %q", x.list, x.and, got, x.want)
		}
	}
}

// P7.3: of many: piece by piece.
func TestJoinOfMany(t *testing.T) {
	var list []string
	want, open := "", ""
	for n := range 1001 {
		word := strconv.Itoa(n * 37)
		switch n {
		case 0:
			want, open = word, word
		default:
			want, open = open+" oraz "+word, open+", "+word
		}
		list = append(list, word)
		if got := plural.Join(list, "oraz"); got != want {
			t.Fatalf("Join of %d strings = %q, want %q", len(list), got, want)
		}
	}
}

// R5: the list isn't modified, nor what lies behind it.
func TestJoinModifiesNothing(t *testing.T) {
	for n := range 6 {
		list := []string{"a", "b", "c", "d", "e", "f", "g", "h"}
		before := slices.Clone(list)
		first := plural.Join(list[:n], "and")
		if second := plural.Join(list[:n], "and"); first != second {
			t.Errorf("Join of the same %d strings: %q, then %q", n, first, second)
		}
		if !slices.Equal(list, before) {
			t.Errorf("Join of the first %d modified the list: %q", n, list)
		}
		kept := strings.Clone(first)
		clear(list)
		if first != kept {
			t.Errorf("Join's result changed with its argument, to %q", first)
		}
	}
}

// P1, R7: whatever the arguments, the functions return; R3: 0 goes with false.
func TestAnyArguments(t *testing.T) {
	odd := []int{math.MinInt, math.MinInt + 1, -1 << 32, -1000, -113, -112, -22, -14, -12, -11, -10, -5, -2, -1, 0, 1, 2, 3, 5, 12, 1000, 1 << 32, greatest}
	texts := []string{"", "1", "1st", "2e", "1er", "1.", "0.", "-1.", "-1", "\xff\xfe", "1\xff", "\x00", strings.Repeat("1", 100000), strings.Repeat("0", 100000), strings.Repeat("\xc3", 1000)}
	for _, number := range odd {
		for _, n := range odd {
			if f := plural.Kind(number).Form(n); f < 0 || f > 2 {
				t.Errorf("Kind(%d).Form(%d) = %d, which is no form", number, n, f)
			}
			s := plural.Style(number)
			for _, text := range append([]string{s.Ordinal(n)}, texts...) {
				k, ok := s.Read(text, n)
				if !ok && k != 0 || ok && (k < 1 || k > n || s.Ordinal(k) != text) {
					t.Errorf("Style(%d).Read(%q, %d) = %d %t", number, text, n, k, ok)
				}
			}
		}
	}
	plural.Join(make([]string, 1000), "\xff")
	plural.Join(slices.Repeat([]string{"\xff\x00"}, 1000), strings.Repeat("\xc3", 100000))
}

// R6: a second call answers as the first one, also after calls of others.
func TestSameAgain(t *testing.T) {
	type answer struct {
		form, number int
		ordinal      string
	}
	var first []answer
	for round := range 2 {
		for n := 1; n < 200; n++ {
			for i := range 3 {
				text := allStyles[i].Ordinal(n)
				number, _ := allStyles[(i+n)%3].Read(text, 150)
				a := answer{allKinds[i].Form(n), number, text}
				if at := (n-1)*3 + i; round == 0 {
					first = append(first, a)
				} else if first[at] != a {
					t.Errorf("first %+v, then %+v", first[at], a)
				}
			}
		}
	}
}
