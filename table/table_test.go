package table_test

import (
	"math"
	"math/rand"
	"reflect"
	"regexp"
	"slices"
	"strings"
	"testing"

	"kalends/api"
	"kalends/plural"
	"kalends/table"
)

// Short names, for the rows below.
const (
	ok    = api.OK
	none  = api.ErrNone
	size  = api.ErrSize
	word  = api.ErrWord
	twice = api.ErrTwice
	kind  = api.ErrKind
)

type key = table.Key

// values: each category that has words, and how many values it has, written out.
var values = []struct {
	cat  table.Cat
	many int
}{
	{table.Every, 1}, {table.Other, 1}, {table.Unit, 4}, {table.Adverb, 4}, {table.Twice, 4}, {table.In, 1}, {table.On, 1}, {table.Only, 1}, {table.Until, 1},
	{table.For, 1}, {table.And, 1}, {table.Last, 1}, {table.Times, 1}, {table.Month, 12}, {table.Weekday, 7},
}

// noValues: numbers that are no category with words.
var noValues = []table.Cat{table.Comma, table.Number, table.Ordinal, table.Date, table.Cats, table.Cats + 1, 99, 1 << 32, math.MaxInt, -1, -2, -13, -19, math.MinInt}

// keys: those that a whole table has words for, in their order.
func keys() (list []key) {
	for _, x := range values {
		for v := range x.many {
			list = append(list, key{Cat: x.cat, Val: v})
		}
	}
	return list
}

// words: of a list, separated by commas.
func words(list string) []string {
	return strings.Split(list, ",")
}

// whole: a table with nothing but what it must have: for each key one word, for units and times three.
func whole() *table.Table {
	t := &table.Table{Name: "made", Words: map[key][]string{}}
	for _, k := range keys() {
		w := string(rune('a'+k.Cat)) + string(rune('a'+k.Val))
		if k.Cat == table.Unit || k.Cat == table.Times {
			t.Words[k] = []string{w, w + "s", w + "z"}
		} else {
			t.Words[k] = []string{w}
		}
	}
	return t
}

// with: a whole table, but for one key's words.
func with(k key, list ...string) *table.Table {
	t := whole()
	t.Words[k] = list
	return t
}

func checks(t *testing.T, what string, x *table.Table, want api.Errno) {
	t.Helper()
	if got := x.Check(); got != want {
		t.Errorf("Check of %.60q = %d, want %d", what, got, want)
	}
}

func writes(t *testing.T, x *table.Table, k key, n int, want string) {
	t.Helper()
	if got := x.Word(k, n); got != want {
		t.Errorf("Word(%v, %d) of kind %d = %q, want %q", k, n, x.Kind, got, want)
	}
}

// The numbers of the categories, in their order.
func TestNumbers(t *testing.T) {
	list := []table.Cat{
		table.Every, table.Other, table.Unit, table.Adverb, table.Twice, table.In, table.On, table.Only, table.Until, table.For, table.And, table.Last,
		table.Times, table.Month, table.Weekday, table.Comma, table.Number, table.Ordinal, table.Date, table.Cats,
	}
	for i, c := range list {
		if int(c) != i {
			t.Errorf("category %d has the number %d", i, c)
		}
	}
}

// P8.1
func TestMany(t *testing.T) {
	for _, x := range values {
		if got := x.cat.Many(); got != x.many {
			t.Errorf("Cat(%d).Many() = %d, want %d", x.cat, got, x.many)
		}
	}
	for _, c := range noValues {
		if got := c.Many(); got != 0 {
			t.Errorf("Cat(%d).Many() = %d, want 0", c, got)
		}
	}
}

// P8.1: of every category but units and times the first word is written, whatever the number and the kind.
func TestWord(t *testing.T) {
	for _, k := range keys() {
		if k.Cat == table.Unit || k.Cat == table.Times {
			continue
		}
		for _, list := range []string{"one", "one,two", "one,two,three,four", "été du l'an,x,y", "x y,x"} {
			x := with(k, words(list)...)
			for x.Kind = range plural.Kinds {
				for _, n := range []int{0, 1, 2, 3, 5, 12, 22, math.MaxInt} {
					writes(t, x, k, n, words(list)[0])
				}
			}
		}
	}
}

// P8.1: units and times are written in the form of the number.
func TestWordOfForms(t *testing.T) {
	forms := []struct {
		kind plural.Kind
		form int
		list []int
	}{
		{plural.Two, 0, []int{1}},
		{plural.Two, 1, []int{0, 2, 3, 5, 11, 12, 21, 22, 101, 1001, math.MaxInt}},
		{plural.French, 0, []int{0, 1}},
		{plural.French, 1, []int{2, 3, 5, 10, 11, 12, 21, 100, 101, math.MaxInt}},
		{plural.Polish, 0, []int{1}},
		{plural.Polish, 1, []int{2, 3, 4, 22, 23, 24, 102, 122, 1002}},
		{plural.Polish, 2, []int{0, 5, 11, 12, 13, 14, 20, 21, 25, 101, 112, 1012, math.MaxInt}},
	}
	for _, k := range keys() {
		if k.Cat != table.Unit && k.Cat != table.Times {
			continue
		}
		// Fewer words than a form asks for leave it without one; what lies behind the third is written for no number.
		for _, list := range [][]string{nil, {}, {"a"}, {"a", "b"}, {"a", "b", "c"}, {"a", "b", "c", "d"}, {"lat", "lat", "rok"}} {
			x := with(k, list...)
			for _, f := range forms {
				x.Kind = f.kind
				want := ""
				if f.form < len(list) {
					want = list[f.form]
				}
				for _, n := range f.list {
					writes(t, x, k, n, want)
				}
			}
		}
	}
}

// P8.1: each key has words of its own.
func TestWordOfEachKey(t *testing.T) {
	x := whole()
	had := map[string]key{}
	for _, k := range keys() {
		for _, n := range []int{1, 2} {
			w := x.Word(k, n)
			if w != x.Words[k][0] && n == 1 || w == "" {
				t.Errorf("Word(%v, %d) = %q of %q", k, n, w, x.Words[k])
			}
			if other, ok := had[w]; ok && other != k {
				t.Errorf("Word of %v and of %v are both %q", k, other, w)
			}
			had[w] = k
		}
	}
	x.Kind = plural.Polish
	for _, w := range []struct {
		k    key
		n    int
		want string
	}{
		{key{Cat: table.Every}, 1, "aa"}, {key{Cat: table.Other}, 2, "ba"}, {key{Cat: table.Unit, Val: 0}, 1, "ca"}, {key{Cat: table.Unit, Val: 0}, 2, "cas"},
		{key{Cat: table.Unit, Val: 3}, 5, "cdz"}, {key{Cat: table.Adverb, Val: 3}, 5, "dd"}, {key{Cat: table.Times}, 12, "maz"}, {key{Cat: table.Times}, 22, "mas"},
		{key{Cat: table.Month, Val: 11}, 2, "nl"}, {key{Cat: table.Weekday, Val: 6}, 5, "og"}, {key{Cat: table.Weekday, Val: 0}, 0, "oa"},
	} {
		writes(t, x, w.k, w.n, w.want)
	}
}

// P8.1: a key without words has none to write: one that the table leaves out, one with a nil or an empty list (R4), one that there isn't.
func TestWordOfNone(t *testing.T) {
	numbers := []int{0, 1, 2, 5, 22, math.MaxInt}
	for _, k := range keys() {
		out := whole()
		delete(out.Words, k)
		for _, x := range []*table.Table{out, with(k), with(k, []string{}...), {}, {Words: map[key][]string{}}} {
			for x.Kind = range plural.Kinds {
				for _, n := range numbers {
					writes(t, x, k, n, "")
				}
			}
		}
	}
	x := whole()
	for _, y := range values {
		for _, v := range []int{y.many, y.many + 1, 99, 1 << 32, math.MaxInt, -1, -y.many, math.MinInt} {
			for _, n := range numbers {
				writes(t, x, key{Cat: y.cat, Val: v}, n, "")
			}
		}
	}
	for _, c := range noValues {
		for _, v := range []int{0, 1, 4, -1} {
			for _, n := range numbers {
				writes(t, x, key{Cat: c, Val: v}, n, "")
			}
		}
	}
}

// P8.1: Words has a say alone: a key that there isn't, but that has words, is written by them.
func TestWordOfOtherKeys(t *testing.T) {
	for _, k := range []key{{Cat: table.Comma}, {Cat: table.Date, Val: 3}, {Cat: table.Cats}, {Cat: -1}, {Cat: table.Month, Val: 12}, {Cat: table.Weekday, Val: -1}} {
		writes(t, with(k, "a", "b", "c"), k, 2, "a")
	}
	for _, k := range []key{{Cat: table.Unit, Val: 4}, {Cat: table.Unit, Val: -1}, {Cat: table.Times, Val: 1}} {
		writes(t, with(k, "a", "b", "c"), k, 2, "b")
	}
}

// english: a table as a language has it.
func english() *table.Table {
	x := &table.Table{Name: "en", Kind: plural.Two, Style: plural.English, Words: map[key][]string{}}
	for i, row := range []string{
		"every,each", "every other,every second", "day,days,days|week,weeks,weeks|month,months,months|year,years,years", "daily|weekly|monthly|yearly,annually",
		"bidaily|biweekly|bimonthly|biyearly,biannually", "in", "on the,on", "only the,only", "until,till", "for", "and", "last,to last", "time,times,times",
		"january,jan|february,feb|march,mar|april,apr|may|june,jun|july,jul|august,aug|september,sep|october,oct|november,nov|december,dec",
		"monday,mon|tuesday,tue|wednesday,wed|thursday,thu|friday,fri|saturday,sat|sunday,sun",
	} {
		for v, list := range strings.Split(row, "|") {
			x.Words[key{Cat: table.Cat(i), Val: v}] = words(list)
		}
	}
	return x
}

// P8.2: tables that are whole, in every kind and style, with any name.
func TestCheckOfWhole(t *testing.T) {
	for _, x := range []*table.Table{whole(), english()} {
		for x.Kind = range plural.Kinds {
			for x.Style = range plural.Styles {
				for _, x.Name = range []string{"", "en", "English!", "\xff\x00"} {
					checks(t, "a whole table", x, ok)
				}
			}
		}
	}
}

// P8.2
func TestCheckOfKinds(t *testing.T) {
	bad := []int{3, 4, 99, 1 << 32, math.MaxInt, -1, -2, -3, math.MinInt}
	for _, n := range bad {
		for good := range 3 {
			for _, x := range []*table.Table{whole(), {}, with(key{Cat: table.Unit}, "A")} {
				x.Kind, x.Style = plural.Kind(n), plural.Style(good)
				checks(t, "a table of no such kind", x, kind)
				x.Kind, x.Style = plural.Kind(good), plural.Style(n)
				checks(t, "a table of no such style", x, kind)
				x.Kind, x.Style = plural.Kind(n), plural.Style(n)
				checks(t, "a table of no such kind and style", x, kind)
			}
		}
	}
}

// P8.2, R4: a table without words, and one with a key without words.
func TestCheckOfNone(t *testing.T) {
	checks(t, "a table with nil Words", &table.Table{}, none)
	checks(t, "a table without words", &table.Table{Words: map[key][]string{}}, none)
	for _, k := range keys() {
		x := whole()
		delete(x.Words, k)
		checks(t, "a table without a key", x, none)
		x.Words[k] = nil
		checks(t, "a table with a nil list", x, none)
		x.Words[k] = []string{}
		checks(t, "a table with an empty list", x, none)
		x.Words[k] = make([]string, 0, 4)
		checks(t, "a table with an empty list with room", x, none)
		x = &table.Table{Words: map[key][]string{k: {"a", "b", "c"}}}
		checks(t, "a table with one key", x, none)
	}
}

// P8.2: units and times have three words or more, other keys one or more.
func TestCheckOfSize(t *testing.T) {
	for _, k := range keys() {
		few := ok
		if k.Cat == table.Unit || k.Cat == table.Times {
			few = size
		}
		checks(t, "one word", with(k, "zz"), few)
		checks(t, "two words", with(k, "zz", "zy"), few)
		checks(t, "the same word twice", with(k, "zz", "zz"), few)
		checks(t, "three words", with(k, "zz", "zy", "zx"), ok)
		checks(t, "the same word three times", with(k, "zz", "zz", "zz"), ok)
		checks(t, "four words", with(k, "zz", "zy", "zx", "zw"), ok)
	}
}

// goodWords and badWords: as the promise has it, and otherwise.
var (
	goodWords = []string{
		"a", "z", "az", "'", "''", "l'an", "'a", "a'", "' '", "a b", "a b c d", "jusqu'au", "on the", "année", "é", "ż ó", "środę", "zażółć gęślą jaźń",
		"\x80", "\xff", "\xc3", "\xa9\xc3", "a\x80", "\x80 \xff", "\xed\xa0\x80", "\xc0\x80", "\xf0\x9f", "�", "日本 語", "\u00a0", "\u3000", "a\u2003b", "À", "Ż", "\u0080", "\u0085", "\U0010ffff",
		strings.Repeat("x", 5000), strings.Repeat("x ", 5000) + "x",
	}
	badWords = []string{
		"", " ", "  ", " a", "a ", " a ", "a  b", "a b ", " a b", "a b  c", "a   b", "é ", " é", "é  é", "\xff ", " \xff",
		"A", "Z", "aB", "A b", "a B", "aZ", "`", "{", "@", "[", "a`", "a{b", "_", "-", "a-b", "a.", ".", ",", "a,b", "a, b", "a|b", "&", "(", "\"", "a\"",
		"0", "9", "1st", "a1", "a 1", "2 a", "\t", "a\tb", "\ta", "a\t", "a \tb", "\n", "a\n", "\r", "a\r\nb", "\v", "\f", "\x00", "a\x00", "\x7f", "é\x7f", "\x1f", "É!", "é,", "é1", "éA", "\xff\t",
		strings.Repeat("x", 5000) + " ", strings.Repeat("x", 5000) + "  x", strings.Repeat("é", 5000) + ".",
	}
)

// P8.2: word by word, of every category, in every place of a list.
func TestCheckOfWords(t *testing.T) {
	for _, k := range keys() {
		for at := range 4 {
			list := []string{"zz", "zy", "zx", "zw"}
			for _, list[at] = range goodWords {
				checks(t, list[at], with(k, list...), ok)
			}
			for _, list[at] = range badWords {
				checks(t, list[at], with(k, list...), word)
			}
		}
	}
}

// P8.2: which bytes a word may have: alone, at its beginning, in it, at its end.
func TestCheckOfBytes(t *testing.T) {
	k := key{Cat: table.Month, Val: 5}
	for b := range 256 {
		c := string([]byte{byte(b)})
		want := word
		if b >= 'a' && b <= 'z' || b == '\'' || b >= 128 {
			want = ok
		}
		checks(t, c, with(k, "zz", c), want)
		checks(t, c+"z", with(k, "zz", c+"z"), want)
		checks(t, "z"+c, with(k, "zz", "z"+c), want)
		if b == ' ' {
			want = ok
		}
		checks(t, "z"+c+"z", with(k, "zz", "z"+c+"z"), want)
		checks(t, "é"+c+"ż", with(k, "zz", "é"+c+"ż"), want)
	}
}

// A pattern of words, in which H stands for every byte from 128 on.
var pattern = regexp.MustCompile(`\A[a-z'H]+( [a-z'H]+)*\z`)

// isWord: by a pattern.
func isWord(text string) bool {
	bytes := []byte(strings.ReplaceAll(text, "H", "!"))
	for i, b := range bytes {
		if b >= 128 {
			bytes[i] = 'H'
		}
	}
	return pattern.Match(bytes)
}

// P8.2: all texts of up to five of some characters.
func TestCheckOfShortWords(t *testing.T) {
	x := with(key{Cat: table.On}, "", "")
	list := x.Words[key{Cat: table.On}]
	letters := []string{"a", " ", "'", "\xff", "é", "A"}
	texts := []string{""}
	for range 5 {
		var longer []string
		for _, text := range texts {
			for _, c := range letters {
				longer = append(longer, text+c)
			}
		}
		for _, text := range longer {
			want := word
			if isWord(text) {
				want = ok
			}
			list[0], list[1] = "zz", text
			checks(t, text, x, want)
		}
		texts = longer
	}
}

// P8.2: a word under two values of a category, whichever of them has it in whichever place; under one value, or in two categories, it may stand.
func TestCheckOfTwice(t *testing.T) {
	for _, y := range values {
		for v := range y.many {
			for u := range v {
				for place := range 9 {
					x := whole()
					x.Words[key{Cat: y.cat, Val: u}] = []string{"za", "zb", "zc"}
					x.Words[key{Cat: y.cat, Val: v}] = []string{"zd", "ze", "zf"}
					checks(t, "other words", x, ok)
					for _, w := range []string{"zz", "é", "\xff", "l'an d"} {
						x.Words[key{Cat: y.cat, Val: u}][place/3], x.Words[key{Cat: y.cat, Val: v}][place%3] = w, w
						checks(t, "a word under two values", x, twice)
					}
				}
			}
		}
	}
	for _, a := range keys() {
		checks(t, "a word under one key", with(a, "zz", "zy", "zz", "zz"), ok)
		for _, b := range keys() {
			x := with(a, "zz", "zz", "zy")
			x.Words[b] = []string{"zx", "zy", "zz"}
			want := ok
			if a.Cat == b.Cat && a != b {
				want = twice
			}
			checks(t, "a word under two keys", x, want)
		}
	}
	// Words differ where any byte does.
	k := key{Cat: table.Month, Val: 1}
	for _, w := range []string{"n", "nax", "na a", "nà", "na'", "'na", "xna", "n a", "na\xff"} {
		checks(t, w, with(k, w), ok)
	}
	x := with(key{Cat: table.Month, Val: 0}, "\xff")
	for _, w := range []string{"\xfe", "\xff\xff", "�"} {
		x.Words[k] = []string{w}
		checks(t, w, x, ok)
	}
}

// P8.2: keys that there are not have no say: neither their words nor that they have some.
func TestCheckOfOtherKeys(t *testing.T) {
	for _, y := range values {
		for _, v := range []int{y.many, y.many + 1, 99, math.MaxInt, -1, -2, math.MinInt} {
			k := key{Cat: y.cat, Val: v}
			for _, list := range [][]string{nil, {}, {""}, {"A", "a  b"}, {"zz"}, whole().Words[key{Cat: y.cat}]} {
				checks(t, "a value that there isn't", with(k, list...), ok)
			}
		}
	}
	for _, c := range noValues {
		for _, v := range []int{0, 1, -1} {
			for _, list := range [][]string{nil, {}, {""}, {"A"}, {"aa", "aa"}} {
				checks(t, "a category that there isn't", with(key{Cat: c, Val: v}, list...), ok)
			}
		}
	}
	x := &table.Table{Words: map[key][]string{}}
	for _, c := range noValues {
		x.Words[key{Cat: c}] = []string{"a", "b", "c"}
	}
	checks(t, "a table of other keys only", x, none)
}

// faults: what may be wrong with the words of any key, and the error for it.
var faults = []struct {
	list []string
	err  api.Errno
}{
	{nil, none}, {[]string{"A", "zz", "zy"}, word}, {[]string{"zz", "zy", ""}, word},
}

// P8.2, R2: of the faults of two keys that of the first category and value is told.
func TestCheckOfTwoKeys(t *testing.T) {
	all := keys()
	for i, a := range all {
		for _, b := range all[i+1:] {
			for _, f := range faults {
				for _, g := range faults {
					x := whole()
					x.Words[a], x.Words[b] = f.list, g.list
					checks(t, "two keys with a fault", x, f.err)
				}
			}
		}
		if a.Cat == table.Unit || a.Cat == table.Times {
			for _, b := range all[i+1:] {
				for _, g := range faults {
					x := with(a, "zz", "A")
					x.Words[b] = g.list
					checks(t, "two words first", x, size)
				}
			}
			for _, b := range all[:i] {
				for _, g := range faults {
					x := with(a, "zz", "zy")
					x.Words[b] = g.list
					checks(t, "two words behind", x, g.err)
				}
			}
		}
	}
}

// P8.2, R2: of the faults of one key the size comes first, then word by word what a word is, then whether it is another value's.
func TestCheckOfTwoFaults(t *testing.T) {
	month, unit := key{Cat: table.Month, Val: 3}, key{Cat: table.Unit, Val: 2}
	for _, y := range []struct {
		k    key
		list string
		want api.Errno
	}{
		{unit, "A", size}, {unit, "ca,cb", size}, {unit, "ca,A", size}, {unit, "zz,A", size}, {key{Cat: table.Times}, "A,A", size}, {key{Cat: table.Times}, "", size},
		{unit, "ca,A,zz", twice}, {unit, "A,ca,zz", word}, {unit, "zz,zy,zx,A,ca", word}, {unit, "zz,zy,zx,ca,A", twice},
		{month, "na,A", twice}, {month, "A,na", word}, {month, "zz,na,", twice}, {month, "zz,,na", word}, {month, "zz,zz,nb,a  b", twice}, {month, "zz,zz,a  b,nb", word},
		// The smaller value's word is another one's only from the greater value's side.
		{month, "ne", twice}, {month, "ne,zz", twice}, {month, "zz,A,ne", word},
	} {
		checks(t, y.list, with(y.k, words(y.list)...), y.want)
	}
	// A word that a greater value has too is told there, behind the faults of the values between.
	x := with(key{Cat: table.Month, Val: 1}, "zz")
	x.Words[key{Cat: table.Month, Val: 5}] = []string{"zz"}
	x.Words[key{Cat: table.Month, Val: 4}] = []string{"A"}
	checks(t, "a fault between two equal words", x, word)
	delete(x.Words, key{Cat: table.Month, Val: 3})
	checks(t, "a value without words between", x, none)
	x = with(key{Cat: table.Month, Val: 1}, "zz")
	x.Words[key{Cat: table.Month, Val: 5}] = []string{"zz"}
	x.Words[key{Cat: table.Month, Val: 6}] = nil
	checks(t, "a fault behind two equal words", x, twice)
	x.Words[key{Cat: table.Adverb, Val: 3}] = nil
	checks(t, "a fault in a smaller category", x, none)
	x.Kind = plural.Kinds
	checks(t, "no such kind, and more", x, kind)
}

// checkByFaults: the error of a table, by listing all its faults and taking the first.
func checkByFaults(x *table.Table) api.Errno {
	if !slices.Contains([]plural.Kind{plural.Two, plural.French, plural.Polish}, x.Kind) || !slices.Contains([]plural.Style{plural.English, plural.Er, plural.Point}, x.Style) {
		return kind
	}
	var found []api.Errno
	for _, k := range keys() {
		list := x.Words[k]
		if len(list) == 0 {
			found = append(found, none)
		}
		if slices.Contains([]table.Cat{table.Unit, table.Times}, k.Cat) && len(list) < 3 {
			found = append(found, size)
		}
		for _, w := range list {
			if !isWord(w) {
				found = append(found, word)
			}
			for other, l := range x.Words {
				if other.Cat == k.Cat && other.Val >= 0 && other.Val < k.Val && slices.Contains(l, w) {
					found = append(found, twice)
				}
			}
		}
	}
	return append(found, ok)[0]
}

// P8.2: tables with some changes.
func TestCheckOfChanged(t *testing.T) {
	r := rand.New(rand.NewSource(8))
	all := keys()
	some := slices.Concat([]string{"zz", "zy", "na", "nb", "ob", "ca", "cbs", "db", "eb", "a b"}, goodWords[:20], badWords[:20])
	count := map[api.Errno]int{}
	for range 4000 {
		x := whole()
		for range r.Intn(6) {
			k := all[r.Intn(len(all))]
			switch r.Intn(12) {
			case 0:
				delete(x.Words, k)
			case 1:
				x.Words[k] = x.Words[k][:r.Intn(1+len(x.Words[k]))]
			case 2:
				x.Words[key{Cat: k.Cat, Val: r.Intn(20) - 5}] = []string{some[r.Intn(len(some))], "q", "r"}
			case 3:
				x.Words[k] = append(x.Words[k], some[r.Intn(len(some))])
			default:
				x.Words[k] = append(x.Words[k], some[r.Intn(20)])
			}
		}
		x.Kind, x.Style = plural.Kind(max(0, r.Intn(60)-56)), plural.Style(max(0, r.Intn(60)-56))
		want := checkByFaults(x)
		count[want]++
		if got := x.Check(); got != want {
			t.Fatalf("Check of %v = %d, want %d", x, got, want)
		}
	}
	for _, e := range []api.Errno{ok, none, size, word, twice, kind} {
		if count[e] < 50 {
			t.Errorf("only %d tables with the error %d", count[e], e)
		}
	}
}

// copied: a table with the same words in other memory.
func copied(x *table.Table) *table.Table {
	y := *x
	y.Words = map[key][]string{}
	for k, l := range x.Words {
		y.Words[k] = slices.Clone(l[:cap(l)])[:len(l)]
	}
	return &y
}

// R5: a table isn't modified, nor what lies behind its lists; R6: a second call answers as the first one.
func TestModifiesNothing(t *testing.T) {
	long := []string{"zz", "zy", "zx", "behind"}
	empty := &table.Table{}
	for _, x := range []*table.Table{whole(), english(), with(key{Cat: table.Unit}, long[:3]...), with(key{Cat: table.Unit}, long[:2]...), with(key{Cat: table.Month, Val: 7}, "oa", "A"), {Words: map[key][]string{}}} {
		was := copied(x)
		err := x.Check()
		for _, k := range append(keys(), key{Cat: table.Comma}, key{Cat: -1}, key{Cat: table.Unit, Val: 4}) {
			for n := range 30 {
				if x.Word(k, n) != was.Word(k, n) {
					t.Fatalf("Word(%v, %d) is not the same again", k, n)
				}
			}
		}
		if x.Check() != err || was.Check() != err {
			t.Error("Check is not the same again")
		}
		if !reflect.DeepEqual(x, was) || long[3] != "behind" {
			t.Error("a table was modified")
		}
	}
	if empty.Check(); empty.Word(key{}, 1) != "" || empty.Words != nil {
		t.Error("an empty table was modified")
	}
}

// P1, R7: whatever the arguments, the functions return.
func TestAnyArguments(t *testing.T) {
	numbers := []int{0, 1, 2, 3, 5, -1, -2, -3, -12, -22, 99, math.MaxInt, math.MinInt}
	for _, x := range []*table.Table{whole(), {}, {Words: map[key][]string{}}, with(key{Cat: table.Unit}, "\xff", ""), with(key{Cat: table.Times})} {
		for _, a := range numbers {
			for _, b := range numbers {
				x.Kind, x.Style = plural.Kind(a), plural.Style(b)
				x.Check()
				table.Cat(a).Many()
				for _, n := range numbers {
					x.Word(key{Cat: table.Cat(a), Val: b}, n)
					x.Word(key{Cat: table.Unit}, n)
					x.Word(key{Cat: table.Times, Val: b}, n)
				}
			}
		}
	}
	// Lists as long as they may be.
	x := whole()
	for i, k := range keys() {
		list := make([]string, 1000)
		for j := range list {
			list[j] = strings.Repeat("x", 1+i) + strings.Repeat("y", 1+j)
		}
		x.Words[k] = list
	}
	checks(t, "a table of long lists", x, ok)
	x.Words[key{Cat: table.Weekday, Val: 6}][999] = x.Words[key{Cat: table.Weekday}][999]
	checks(t, "a table of long lists, with a word twice", x, twice)
	x.Words[key{Cat: table.Weekday, Val: 6}][998] += " "
	checks(t, "a table of long lists, with a fault", x, word)
}
