package token_test

import (
	"cmp"
	"math"
	"math/rand"
	"reflect"
	"regexp"
	"slices"
	"strconv"
	"strings"
	"sync"
	"testing"
	"time"
	"unicode/utf8"

	"kalends/api"
	"kalends/fold"
	"kalends/locale"
	"kalends/plural"
	"kalends/table"
	"kalends/token"
)

type key = table.Key

// names: the categories in their order, as the tests below write them.
const names = "Every Other Unit Adverb Twice In On Only Until For And Last Times Month Weekday Comma Number Ordinal Date"

// shown: tokens as text; of each where it stands, and what it may be.
func shown(list []token.Token) string {
	cats := strings.Fields(names)
	var out []string
	for _, x := range list {
		text := strconv.Itoa(x.From) + "-" + strconv.Itoa(x.To)
		for _, k := range x.Keys {
			text += " " + cats[k.Cat] + strconv.Itoa(k.Val)
		}
		out = append(out, text)
	}
	return strings.Join(out, ", ")
}

func splits(t *testing.T, l *token.Lexicon, s, want string) {
	t.Helper()
	list, from, to, err := l.Split(s)
	if got := shown(list); got != want || from != 0 || to != 0 || err != api.OK {
		t.Errorf("Split(%.80q) = %.300s; %d, %d, %d, want %.300s", s, got, from, to, err, want)
	}
}

func fails(t *testing.T, l *token.Lexicon, s string, from, to int, want api.Errno) {
	t.Helper()
	list, gotFrom, gotTo, err := l.Split(s)
	if len(list) != 0 || gotFrom != from || gotTo != to || err != want {
		t.Errorf("Split(%.80q) = %d tokens; %d, %d, %d, want %d, %d, %d", s, len(list), gotFrom, gotTo, err, from, to, want)
	}
}

// single: a piece is a token of one key, alone and among others.
func single(t *testing.T, l *token.Lexicon, piece, want string) {
	t.Helper()
	n := len(piece)
	splits(t, l, piece, "0-"+strconv.Itoa(n)+" "+want)
	splits(t, l, "7 ,"+piece+",", "0-1 Number7, 2-3 Comma0, 3-"+strconv.Itoa(3+n)+" "+want+", "+strconv.Itoa(3+n)+"-"+strconv.Itoa(4+n)+" Comma0")
}

// nothing: a piece is no token, alone and among others.
func nothing(t *testing.T, l *token.Lexicon, piece string) {
	t.Helper()
	fails(t, l, piece, 0, len(piece), api.ErrWord)
	fails(t, l, " 7,, "+piece+",8", 5, 5+len(piece), api.ErrWord)
}

// made: a whole table in which some keys have these words, and the others words of no use.
func made(some map[key][]string) *table.Table {
	x := &table.Table{Name: "made", Words: map[key][]string{}}
	for c := range table.Cats {
		for v := range c.Many() {
			w := "q" + string(rune('a'+c)) + string(rune('a'+v))
			x.Words[key{Cat: c, Val: v}] = []string{w, w + "x", w + "y"}
		}
	}
	for k, list := range some {
		x.Words[k] = list
	}
	return x
}

// ons: a whole table with these words for On.
func ons(words ...string) *table.Table {
	return made(map[key][]string{{Cat: table.On}: words})
}

// reader is a second derivation of what a lexicon does.
type reader struct {
	words    map[string][]key
	bytes    int // of the longest word
	ordinals map[string]int
}

func readerOf(x *table.Table) reader {
	r := reader{words: map[string][]key{}, ordinals: map[string]int{}}
	for n := 1; n <= 366; n++ {
		r.ordinals[x.Style.Ordinal(n)] = n
	}
	for k, list := range x.Words {
		if k.Val < 0 || k.Val >= k.Cat.Many() {
			continue
		}
		for _, w := range list {
			r.bytes = max(r.bytes, len(w))
			if !slices.Contains(r.words[w], k) {
				r.words[w] = append(r.words[w], k)
			}
		}
	}
	for _, list := range r.words {
		slices.SortFunc(list, func(a, b key) int { return cmp.Or(cmp.Compare(a.Cat, b.Cat), cmp.Compare(a.Val, b.Val)) })
	}
	return r
}

var (
	pieceForm  = regexp.MustCompile(`,|[^ ,]+`)
	numberForm = regexp.MustCompile(`^(0|[1-9][0-9]{0,3})$`)
	dateForm   = regexp.MustCompile(`^[0-9]{4}-[0-9]{2}-[0-9]{2}$`)
)

// single: what a piece in lower case may be that is no word.
func (r reader) single(piece string) []key {
	if piece == "," {
		return []key{{Cat: table.Comma}}
	}
	if numberForm.MatchString(piece) {
		n, _ := strconv.Atoi(piece)
		return []key{{Cat: table.Number, Val: n}}
	}
	if n, ok := r.ordinals[piece]; ok {
		return []key{{Cat: table.Ordinal, Val: n}}
	}
	if at, err := time.Parse("2006-01-02", piece); err == nil && dateForm.MatchString(piece) && at.Year() > 0 {
		first := time.Date(1, 1, 1, 0, 0, 0, 0, time.UTC)
		return []key{{Cat: table.Date, Val: int(at.Unix()-first.Unix())/86400 + 1}}
	}
	return nil
}

// next: what the token may be that pieces in lower case begin with, and how many of them it has.
func (r reader) next(pieces []string) ([]key, int) {
	var keys []key
	most, text := 0, ""
	for i := 0; i < len(pieces) && len(text) <= r.bytes; i++ {
		text = strings.Join(pieces[:i+1], " ")
		if r.words[text] != nil {
			keys, most = r.words[text], i+1
		}
	}
	if most > 0 {
		return keys, most
	}
	return r.single(pieces[0]), 1
}

func (r reader) split(s string) (list []token.Token, from, to int, err api.Errno) {
	if len(s) > 4096 {
		return nil, 0, len(s), api.ErrSize
	}
	for i := range s {
		if c, n := utf8.DecodeRuneInString(s[i:]); c == utf8.RuneError && n == 1 {
			return nil, i, i + 1, api.ErrUTF
		}
	}
	places := pieceForm.FindAllStringIndex(s, -1)
	var pieces []string
	for _, at := range places {
		pieces = append(pieces, fold.Small(s[at[0]:at[1]]))
	}
	for i := 0; i < len(pieces); {
		keys, n := r.next(pieces[i:])
		if keys == nil {
			return nil, places[i][0], places[i][1], api.ErrWord
		}
		x := token.Token{Keys: keys, From: places[i][0], To: places[i+n-1][1]}
		if list = append(list, x); len(list) > 800 {
			return nil, x.From, x.To, api.ErrSize
		}
		i += n
	}
	if list == nil {
		return nil, 0, len(s), api.ErrEmpty
	}
	return list, 0, 0, api.OK
}

// same: does a lexicon split a phrase as the second derivation does? It returns the error.
func same(t *testing.T, l *token.Lexicon, r reader, s string) api.Errno {
	t.Helper()
	list, from, to, err := l.Split(s)
	wantList, wantFrom, wantTo, want := r.split(s)
	if shown(list) != shown(wantList) || from != wantFrom || to != wantTo || err != want {
		t.Errorf("Split(%.200q) = %.300s; %d, %d, %d, want %.300s; %d, %d, %d", s, shown(list), from, to, err, shown(wantList), wantFrom, wantTo, want)
	}
	return err
}

// P11.2: the chapter's example, and the document's.
func TestExamples(t *testing.T) {
	l := token.New(locale.English())
	splits(t, l, "on  the 1st", "0-7 On0, 8-11 Ordinal1")
	splits(t, l, "every other tuesday until june", "0-11 Other0, 12-19 Weekday1, 20-25 Until0, 26-30 Month5")
}

// P11.1
func TestKeys(t *testing.T) {
	for _, w := range []struct {
		of   func() *table.Table
		word string
		want key
	}{
		{locale.English, "every", key{Cat: table.Every}},
		{locale.English, "every other", key{Cat: table.Other}},
		{locale.English, "may", key{Cat: table.Month, Val: 4}},
		{locale.English, "biannually", key{Cat: table.Twice, Val: 3}},
		{locale.English, "to last", key{Cat: table.Last}},
		{locale.German, "mal", key{Cat: table.Times}},
		{locale.German, "sonnabend", key{Cat: table.Weekday, Val: 5}},
		{locale.German, "jänner", key{Cat: table.Month}},
		{locale.French, "mois", key{Cat: table.Unit, Val: 2}},
		{locale.French, "jusqu'au", key{Cat: table.Until}},
		{locale.French, "avant la fin", key{Cat: table.Last}},
		{locale.Polish, "dni", key{Cat: table.Unit}},
		{locale.Polish, "niedzielę", key{Cat: table.Weekday, Val: 6}},
		{locale.Polish, "oraz", key{Cat: table.And}},
	} {
		if got := token.New(w.of()).Keys(w.word); !slices.Equal(got, []key{w.want}) {
			t.Errorf("Keys(%q) = %v, want %v", w.word, got, w.want)
		}
	}
}

// P11.1: what is no word has no keys, even if it is a token.
func TestKeysOfNone(t *testing.T) {
	for _, x := range locale.All() {
		l, r := token.New(x), readerOf(x)
		for _, s := range []string{
			"", " ", "x", "foo", ",", "3", "0", "3rd", "3.", "1er", "2e", "2026-11-16", "the", "to", "zum", "vom", "la", "fin", "deux", "drugi", "końca",
			"on the 1st", "every,", "every tuesday", "\xff", "\x00", strings.Repeat("on ", 100000),
		} {
			if got := l.Keys(s); len(got) != 0 {
				t.Errorf("%s: Keys(%.40q) = %v, want none", x.Name, s, got)
			}
		}
		for w := range r.words {
			for _, s := range []string{w + "z", "z" + w, w + ",", w + w, w + " " + w, w[1:], w[:len(w)-1]} {
				if got := l.Keys(s); !slices.Equal(got, r.words[s]) {
					t.Errorf("%s: Keys(%q) = %v, want %v", x.Name, s, got, r.words[s])
				}
			}
		}
	}
}

// P11.1, P11.2: each word of the four languages, in lower case, in upper case and in between, with single spaces and with several.
func TestWords(t *testing.T) {
	for _, x := range locale.All() {
		l := token.New(x)
		for w, want := range readerOf(x).words {
			if got := l.Keys(w); !slices.Equal(got, want) {
				t.Errorf("%s: Keys(%q) = %v, want %v", x.Name, w, got, want)
			}
			_, first := utf8.DecodeRuneInString(w)
			for _, s := range []string{w, strings.ToUpper(w), strings.ToUpper(w[:first]) + w[first:], w[:first] + strings.ToUpper(w[first:]), strings.ReplaceAll(w, " ", "     ")} {
				splits(t, l, s, shown([]token.Token{{Keys: want, To: len(s)}}))
				comma := []key{{Cat: table.Comma}}
				end := 3 + len(s)
				splits(t, l, " , "+s+",", shown([]token.Token{{Keys: comma, From: 1, To: 2}, {Keys: want, From: 3, To: end}, {Keys: comma, From: end, To: end + 1}}))
			}
		}
	}
}

// P11.2
func TestPhrases(t *testing.T) {
	for _, w := range []struct {
		of      func() *table.Table
		s, want string
	}{
		{locale.English, "every day", "0-5 Every0, 6-9 Unit0"},
		{locale.English, "Each 3 WEEKS on Mon, Tue and Fri for 10 times", "0-4 Every0, 5-6 Number3, 7-12 Unit1, 13-15 On0, 16-19 Weekday0, 19-20 Comma0, 21-24 Weekday1, 25-28 And0, 29-32 Weekday4, 33-36 For0, 37-39 Number10, 40-45 Times0"},
		{locale.English, "monthly on the 3rd to last day", "0-7 Adverb2, 8-14 On0, 15-18 Ordinal3, 19-26 Last0, 27-30 Unit0"},
		{locale.English, "monthly on last days only the last", "0-7 Adverb2, 8-10 On0, 11-15 Last0, 16-20 Unit0, 21-29 Only0, 30-34 Last0"},
		{locale.English, "yearly in may,june until 2030-01-31", "0-6 Adverb3, 7-9 In0, 10-13 Month4, 13-14 Comma0, 14-18 Month5, 19-24 Until0, 25-35 Date741108"},
		{locale.English, "every every other every second every", "0-5 Every0, 6-17 Other0, 18-30 Other0, 31-36 Every0"},
		{locale.English, "on on the on only only the last to last", "0-2 On0, 3-9 On0, 10-12 On0, 13-17 Only0, 18-26 Only0, 27-31 Last0, 32-39 Last0"},
		{locale.German, "JEDEN ZWEITEN DIENSTAG BIS ZUM 2027-06-30", "0-13 Other0, 14-22 Weekday1, 23-30 Until0, 31-41 Date740162"},
		{locale.German, "jeden tag im MÄRZ bis juni", "0-5 Every0, 6-9 Unit0, 10-12 In0, 13-18 Month2, 19-22 Until0, 23-27 Month5"},
		{locale.German, "ZWEITÄGLICH nur am 2. vom ende insgesamt 5 mal", "0-12 Twice0, 13-19 Only0, 20-22 Ordinal2, 23-31 Last0, 32-41 For0, 42-43 Number5, 44-47 Times0"},
		{locale.French, "Un Sur Deux mardi jusqu'en juin pendant 0 fois", "0-11 Other0, 12-17 Weekday1, 18-26 Until0, 27-31 Month5, 32-39 For0, 40-41 Number0, 42-46 Times0"},
		{locale.French, "TOUS LES MOIS LE 1ER ET LE 2E AVANT LA FIN EN AOÛT", "0-8 Every0, 9-13 Unit2, 14-16 On0, 17-20 Ordinal1, 21-23 And0, 24-26 On0, 27-29 Ordinal2, 30-42 Last0, 43-45 In0, 46-51 Month7"},
		{locale.Polish, "Co Drugą ŚRODĘ w PAŹDZIERNIKU", "0-9 Other0, 10-17 Weekday2, 18-19 In0, 20-33 Month9"},
		{locale.Polish, "co 2 tygodnie we wtorek,i 3. od  końca", "0-2 Every0, 3-4 Number2, 5-13 Unit1, 14-16 On0, 17-23 Weekday1, 23-24 Comma0, 24-25 And0, 26-28 Ordinal3, 29-39 Last0"},
	} {
		splits(t, token.New(w.of()), w.s, w.want)
	}
}

// P11.1, P11.2: a word of several keys may be each of them, once, in the order of categories and then of values, however the map has them.
func TestOrderOfKeys(t *testing.T) {
	words := map[key][]string{}
	want := ""
	for i, name := range strings.Fields(names) {
		if many := table.Cat(i).Many(); many > 0 {
			words[key{Cat: table.Cat(i), Val: i % many}] = []string{"all", "all", "b", "all"}
			want += " " + name + strconv.Itoa(i%many)
		}
	}
	words[key{Cat: table.Every}] = append(words[key{Cat: table.Every}], "c d")
	words[key{Cat: table.Weekday, Val: 6}] = []string{"c d", "x", "y"}
	words[key{Cat: table.Month, Val: 11}] = []string{"c d", "x"}
	words[key{Cat: table.Unit, Val: 3}] = []string{"y", "y", "c d"}
	for range 20 {
		x := made(words)
		if err := x.Check(); err != api.OK {
			t.Fatalf("the table is not whole: %d", err)
		}
		l, r := token.New(x), readerOf(x)
		splits(t, l, "all", "0-3"+want)
		splits(t, l, "b", "0-1"+want)
		splits(t, l, "C  D", "0-4 Every0 Unit3 Month11 Weekday6")
		splits(t, l, "x y", "0-1 Month11 Weekday6, 2-3 Unit3 Weekday6")
		for _, w := range []string{"all", "b", "c d", "x", "y"} {
			if got := l.Keys(w); !slices.Equal(got, r.words[w]) {
				t.Errorf("Keys(%q) = %v, want %v", w, got, r.words[w])
			}
		}
	}
}

// P11.2: from each piece on, the most pieces that are a word; whether fewer or more of them are the beginning of one has no say, nor what follows.
func TestLongest(t *testing.T) {
	l := token.New(made(map[key][]string{
		{Cat: table.On}:   {"a", "b", "d", "c d", "e", "e e e"},
		{Cat: table.In}:   {"a b c", "d e f g"},
		{Cat: table.Last}: {"ab", "b b"},
	}))
	for s, want := range map[string]string{
		"a":            "0-1 On0",
		"a b c":        "0-5 In0",
		" a   b  c ":   "1-9 In0",
		"a b":          "0-1 On0, 2-3 On0",
		"a b d":        "0-1 On0, 2-3 On0, 4-5 On0",
		"a b c d":      "0-5 In0, 6-7 On0",
		"a c d":        "0-1 On0, 2-5 On0",
		"a b c a b c":  "0-5 In0, 6-11 In0",
		"a b a b c":    "0-1 On0, 2-3 On0, 4-9 In0",
		"ab":           "0-2 Last0",
		"b b b b b":    "0-3 Last0, 4-7 Last0, 8-9 On0",
		"b,b b,b":      "0-1 On0, 1-2 Comma0, 2-5 Last0, 5-6 Comma0, 6-7 On0",
		"e e":          "0-1 On0, 2-3 On0",
		"e e e":        "0-5 On0",
		"e e e e e":    "0-5 On0, 6-7 On0, 8-9 On0",
		"E E E E  E E": "0-5 On0, 6-12 On0",
		"e e,e":        "0-1 On0, 2-3 On0, 3-4 Comma0, 4-5 On0",
		"e e 1 e":      "0-1 On0, 2-3 On0, 4-5 Number1, 6-7 On0",
		"d e d e f g":  "0-1 On0, 2-3 On0, 4-11 In0",
	} {
		splits(t, l, s, want)
	}
	fails(t, l, "b c", 2, 3, api.ErrWord)
	fails(t, l, "a b,c", 4, 5, api.ErrWord)
	fails(t, l, "d e f", 4, 5, api.ErrWord)
	fails(t, l, "a b c d e f c", 10, 11, api.ErrWord)
	fails(t, l, "abc", 0, 3, api.ErrWord)
}

// P11.2: words of many pieces, of as many as a phrase can have, and of more.
func TestLongWords(t *testing.T) {
	for _, n := range []int{2, 3, 10, 999, 2047, 2048} {
		word := strings.Repeat("a ", n-1) + "a"
		l := token.New(ons(word, word+strings.Repeat(" a", 5000)))
		splits(t, l, word, "0-"+strconv.Itoa(len(word))+" On0")
		splits(t, l, strings.ToUpper(word), "0-"+strconv.Itoa(len(word))+" On0")
		if n < 1000 {
			end := strconv.Itoa(len(word))
			splits(t, l, word+", "+word, "0-"+end+" On0, "+end+"-"+strconv.Itoa(len(word)+1)+" Comma0, "+strconv.Itoa(len(word)+2)+"-"+strconv.Itoa(2*len(word)+2)+" On0")
			fails(t, l, word+" a", len(word)+1, len(word)+2, api.ErrWord)
		}
		fails(t, l, word[2:], 0, 1, api.ErrWord)
	}
	// The most work: at each of the pieces a word that needs one more of them than there are.
	l := token.New(ons("a", strings.Repeat("a ", 2047)+"b"))
	fails(t, l, strings.Repeat("a ", 2048), 1600, 1601, api.ErrSize)
}

// P11.2: just the byte 32 is a space, as many as there are; other white space is part of a piece.
func TestSpaces(t *testing.T) {
	x := locale.English()
	l, r := token.New(x), readerOf(x)
	for n := range 50 {
		gap := strings.Repeat(" ", n)
		at := strconv.Itoa(n)
		splits(t, l, gap+"in"+gap, at+"-"+strconv.Itoa(n+2)+" In0")
		if n > 0 {
			splits(t, l, "on"+gap+"the", "0-"+strconv.Itoa(n+5)+" On0")
			splits(t, l, "in"+gap+"may", "0-2 In0, "+strconv.Itoa(n+2)+"-"+strconv.Itoa(n+5)+" Month4")
		}
	}
	for _, c := range []string{"\t", "\n", "\r", "\v", "\f", "\x00", "\x7f", "\u00a0", "\u2003", "\u3000", "\ufeff", "\u200b", ".", ";", "-", "_", "'", "،", "，"} {
		nothing(t, l, c)
		nothing(t, l, "on"+c+"the")
		nothing(t, l, c+"may")
		nothing(t, l, "may"+c)
		nothing(t, l, "7"+c)
	}
	for c := rune(0); c < 0x3100; c++ {
		same(t, l, r, "on"+string(c)+"the")
		same(t, l, r, string(c)+" 1"+string(c)+"1")
	}
	// Of a table's words blanks separate the pieces alone, too.
	splits(t, token.New(ons("a\u00a0b c", "é")), "A\u00a0B  C É", "0-7 On0, 8-10 On0")
}

// P11.2
func TestCommas(t *testing.T) {
	l := token.New(locale.English())
	splits(t, l, ",", "0-1 Comma0")
	splits(t, l, ",,, ,", "0-1 Comma0, 1-2 Comma0, 2-3 Comma0, 4-5 Comma0")
	splits(t, l, ",may,1st,,2,2026-11-16,", "0-1 Comma0, 1-4 Month4, 4-5 Comma0, 5-8 Ordinal1, 8-9 Comma0, 9-10 Comma0, 10-11 Number2, 11-12 Comma0, 12-22 Date739936, 22-23 Comma0")
	splits(t, l, "on,in", "0-2 On0, 2-3 Comma0, 3-5 In0")
	splits(t, l, "1,0", "0-1 Number1, 1-2 Comma0, 2-3 Number0")
}

// P11.2: a comma is a piece, so words don't go over it.
func TestCommasWithin(t *testing.T) {
	l := token.New(locale.English())
	for _, gap := range []string{",", " ,", ", ", " , "} {
		fails(t, l, "on"+gap+"the", 2+len(gap), 5+len(gap), api.ErrWord)
		fails(t, l, "every"+gap+"other", 5+len(gap), 10+len(gap), api.ErrWord)
	}
	fails(t, l, "1,000", 2, 5, api.ErrWord)
}

// P11.2: in each style, all numbers there are.
func TestNumbers(t *testing.T) {
	for _, x := range locale.All() {
		l := token.New(x)
		for n := range 10000 {
			s := strconv.Itoa(n)
			splits(t, l, s, "0-"+strconv.Itoa(len(s))+" Number"+s)
		}
		single(t, l, "0", "Number0")
		single(t, l, "9999", "Number9999")
		for _, s := range []string{
			"10000", "10001", "99999", "65536", "4294967297", "9223372036854775807", "9223372036854775808", "18446744073709551617", "100000000000000000000000000000",
			"00", "01", "007", "0000", "09999", "00000000000000000000001", "-1", "-0", "+1", "+0", "--1", "1-", "1+", "1_0", "1'0", "0x1", "0b1", "0o1", "1e0", "1e1", "1.0", "1.5", ".5", "1/2", "١", "１", "²", "½", "1\u0301", "1a", "a1", "1\t", "\t1", "1\x00",
		} {
			nothing(t, l, s)
		}
	}
	single(t, token.New(locale.French()), "1000", "Number1000")
}

// P11.2: in each style, all ordinals there are, in lower case and in upper case; and none beyond, none of another style.
func TestOrdinals(t *testing.T) {
	for _, x := range locale.All() {
		l := token.New(x)
		for n := 1; n <= 366; n++ {
			s := x.Style.Ordinal(n)
			single(t, l, s, "Ordinal"+strconv.Itoa(n))
			single(t, l, strings.ToUpper(s), "Ordinal"+strconv.Itoa(n))
			nothing(t, l, "0"+s)
			nothing(t, l, s+".")
			for style := range plural.Styles {
				if other := style.Ordinal(n); other != s {
					nothing(t, l, other)
				}
			}
		}
		for _, n := range []int{0, 367, 368, 400, 1000, 9999, 10000, math.MaxInt} {
			nothing(t, l, x.Style.Ordinal(n))
		}
		for _, s := range []string{"1th", "2th", "3th", "11st", "12nd", "13rd", "21th", "1e", "2er", "1ère", "1º", "1°", "st", "er", ".", "1..", "-1.", "+1.", "-1st", "1s", "1stt", "99999999999999999999."} {
			nothing(t, l, s)
		}
	}
	l := token.New(locale.English())
	splits(t, l, "1sT 22Nd 3RD 111th", "0-3 Ordinal1, 4-8 Ordinal22, 9-12 Ordinal3, 13-18 Ordinal111")
}

// P11.2
func TestDates(t *testing.T) {
	for _, x := range locale.All() {
		l, r := token.New(x), readerOf(x)
		for s, want := range map[string]int{
			"0001-01-01": 1, "0001-12-31": 365, "0004-02-29": 1155, "2000-02-29": 730179, "2026-11-16": 739936, "2027-06-30": 740162, "9999-12-31": 3652059,
		} {
			single(t, l, s, "Date"+strconv.Itoa(want))
		}
		for _, s := range []string{
			"0000-01-01", "0000-12-31", "10000-01-01", "2026-00-10", "2026-13-10", "2026-11-00", "2026-11-31", "2026-02-29", "1900-02-29", "2100-02-29",
			"2026-1-16", "26-11-16", "2026-11-6", "2026-11-016", "02026-11-16", "2026-11", "2026-11-", "2026/11/16", "2026.11.16", "20261116", "16-11-2026", "-2026-11-16", "+026-11-16", "2026-+1-16", "2026-11- 6",
			"2026-11-16T00", "2026-11-16.", "２026-11-16", "2026-11-1\u0661", "2026‐11‐16",
		} {
			if same(t, l, r, s) == api.OK {
				t.Errorf("%s: %q is split", x.Name, s)
			}
		}
		for y := 1; y < 10000; y += 113 {
			for d := range 366 {
				same(t, l, r, time.Date(y, 1, 1+d, 0, 0, 0, 0, time.UTC).Format("2006-01-02"))
			}
		}
	}
}

// P11.2: a piece of no token, wherever it stands.
func TestNoWord(t *testing.T) {
	l := token.New(locale.English())
	for _, s := range []string{"foo", "the", "to", "other", "second", "mond", "mondayy", "everyother", "täglich", "każdy", "may1", "1may", "may.", "\ufffd", "ß", "🗓", "İn", "ON\u0301"} {
		nothing(t, l, s)
	}
	fails(t, l, "in foo", 3, 6, api.ErrWord)
	fails(t, l, "foo bar", 0, 3, api.ErrWord)
	fails(t, l, "  every  fooß, bar", 9, 14, api.ErrWord)
	fails(t, l, "on the the", 7, 10, api.ErrWord)
	fails(t, token.New(locale.French()), "un sur mardi", 0, 2, api.ErrWord)
	fails(t, token.New(locale.French()), "un sur trois", 0, 2, api.ErrWord)
	fails(t, token.New(locale.Polish()), "co drugiego", 3, 11, api.ErrWord)
	fails(t, token.New(locale.German()), "bis zum zum", 8, 11, api.ErrWord)
	fails(t, token.New(locale.German()), "am 1. on", 6, 8, api.ErrWord)
	fails(t, l, strings.Repeat("x", 4096), 0, 4096, api.ErrWord)
}

// P11.2: the phrase in lower case is held against the words as they are.
func TestUpperCaseWords(t *testing.T) {
	x := ons("É", "ß", "á")
	if err := x.Check(); err != api.OK {
		t.Fatalf("the table is not whole: %d", err)
	}
	l := token.New(x)
	nothing(t, l, "É")
	nothing(t, l, "é")
	splits(t, l, "ß á", "0-2 On0, 3-5 On0")
	nothing(t, l, "ẞ")
	nothing(t, l, "Á") // no letter of chapter 10
}

// P11.2: phrases without a token.
func TestEmpty(t *testing.T) {
	for _, x := range locale.All() {
		for _, n := range []int{0, 1, 2, 3, 100, 4095, 4096} {
			fails(t, token.New(x), strings.Repeat(" ", n), 0, n, api.ErrEmpty)
		}
	}
}

// P11.2: the length is told first, whatever the phrase has.
func TestTooLong(t *testing.T) {
	l := token.New(locale.English())
	for _, fill := range []string{" ", ",", "x", "7", "on ", "\xff", "é", "foo "} {
		for _, n := range []int{4097, 4098, 5000, 1 << 20} {
			fails(t, l, strings.Repeat(fill, n)[:n], 0, n, api.ErrSize)
		}
	}
	fails(t, l, "every day"+strings.Repeat(" ", 4088), 0, 4097, api.ErrSize)
	splits(t, l, "every day"+strings.Repeat(" ", 4087), "0-5 Every0, 6-9 Unit0")
	splits(t, l, strings.Repeat(" ", 4093)+"may", "4093-4096 Month4")
	splits(t, l, "on"+strings.Repeat(" ", 4091)+"the", "0-4096 On0")
}

// P11.2: the first bad byte is told before any piece, and before there being no token or too many.
func TestBadBytes(t *testing.T) {
	l := token.New(locale.English())
	for _, bad := range []string{"\xff", "\x80", "\xc3", "\xc0\x80", "\xe2\x82", "\xed\xa0\x80", "\xf0\x9f\x97", "\xf4\x90\x80\x80"} {
		for _, before := range []string{"", " ", "in ", "in", "foo ", "foo, every ", "é", "\ufffd ", "MÄRZ,", strings.Repeat(",", 900), strings.Repeat(" ", 4000)} {
			for _, after := range []string{"", " ", "in", " foo", "\xff", ","} {
				fails(t, l, before+bad+after, len(before), len(before)+1, api.ErrUTF)
			}
		}
	}
}

// P11.2: as many tokens as may be; the one too many, with where it stands.
func TestTooMany(t *testing.T) {
	l := token.New(locale.English())
	full := strings.Repeat(",", 800)
	for _, s := range []string{full, full + "  ", strings.Repeat("7 ", 800), strings.Repeat("in ,", 400), strings.Repeat("1st ", 800)} {
		if list, from, to, err := l.Split(s); len(list) != 800 || from != 0 || to != 0 || err != api.OK {
			t.Errorf("Split(%.40q) = %d tokens; %d, %d, %d", s, len(list), from, to, err)
		}
	}
	fails(t, l, full+",", 800, 801, api.ErrSize)
	fails(t, l, full+"  7", 802, 803, api.ErrSize)
	fails(t, l, full+" On   the foo", 801, 809, api.ErrSize)
	fails(t, l, full+"every", 800, 805, api.ErrSize)
	fails(t, l, full+"2026-11-16, foo", 800, 810, api.ErrSize)
	fails(t, l, strings.Repeat(",", 4096), 800, 801, api.ErrSize)
	fails(t, l, strings.Repeat("7 ", 2048), 1600, 1601, api.ErrSize)
	// From the left: a piece of no token is told if it stands where the first token too many could, or before.
	fails(t, l, full+" foo ,", 801, 804, api.ErrWord)
	fails(t, l, full+"the ,", 800, 803, api.ErrWord)
	fails(t, l, full[1:]+"foo,,", 799, 802, api.ErrWord)
	fails(t, l, "foo"+full+",", 0, 3, api.ErrWord)
	fails(t, l, full+", foo", 800, 801, api.ErrSize)
	// It is the tokens that count, not their pieces.
	l = token.New(ons("a b"))
	if list, _, _, err := l.Split(strings.Repeat("a b ", 800)); len(list) != 800 || err != api.OK {
		t.Errorf("%d tokens of two pieces: %d", len(list), err)
	}
	fails(t, l, strings.Repeat("a b ", 801), 3200, 3203, api.ErrSize)
}

// P11.1, P11.2: keys that there aren't have no words.
func TestOtherKeys(t *testing.T) {
	other := []key{
		{Cat: table.Comma}, {Cat: table.Number, Val: 3}, {Cat: table.Ordinal}, {Cat: table.Date, Val: 1}, {Cat: table.Cats}, {Cat: -1}, {Cat: math.MaxInt},
		{Cat: table.Every, Val: 1}, {Cat: table.Month, Val: 12}, {Cat: table.Weekday, Val: 7}, {Cat: table.Unit, Val: 4}, {Cat: table.Unit, Val: -1},
	}
	for _, k := range other {
		x := made(map[key][]string{k: {"all", "b c", "qaa"}})
		if err := x.Check(); err != api.OK {
			t.Fatalf("the table is not whole: %d", err)
		}
		l := token.New(x)
		nothing(t, l, "all")
		fails(t, l, "b c", 0, 1, api.ErrWord)
		splits(t, l, "qaa", "0-3 Every0")
		if len(l.Keys("all"))+len(l.Keys("b c")) != 0 || len(l.Keys("qaa")) != 1 {
			t.Errorf("the words of %v are read", k)
		}
	}
}

// P11.2: against the second derivation, all texts of up to five of some bytes.
func TestShortPhrases(t *testing.T) {
	for style := range plural.Styles {
		x := made(map[key][]string{{Cat: table.On}: {"a", "a é", "e a a"}, {Cat: table.In}: {"é", "a", "r"}})
		x.Style = style
		l, r := token.New(x), readerOf(x)
		count := map[api.Errno]int{}
		var from func(s string)
		from = func(s string) {
			count[same(t, l, r, s)]++
			if len(s) < 5 {
				for _, c := range []string{" ", ",", "a", "A", "e", "r", "1", "0", ".", "\xc3", "\xa9", "\x89"} {
					from(s + c)
				}
			}
		}
		from("")
		if count[api.OK] < 3000 || count[api.ErrWord] < 10000 || count[api.ErrUTF] < 10000 || count[api.ErrEmpty] != 6 {
			t.Errorf("errors of the phrases: %v", count)
		}
	}
}

// mixed: a text with some letters in upper case, and others in place of some spaces.
func mixed(random *rand.Rand, s string) string {
	var b strings.Builder
	for _, c := range s {
		switch {
		case c == ' ':
			b.WriteString(strings.Repeat(" ", 1+random.Intn(3)))
		case random.Intn(3) == 0:
			b.WriteString(strings.ToUpper(string(c)))
		default:
			b.WriteRune(c)
		}
	}
	return b.String()
}

// P11.2: against the second derivation, phrases of random words, numbers, ordinals, dates and pieces of words.
func TestRandomPhrases(t *testing.T) {
	random := rand.New(rand.NewSource(11))
	for _, x := range locale.All() {
		l, r := token.New(x), readerOf(x)
		var words, parts []string
		for w := range r.words {
			words = append(words, w)
			parts = append(parts, strings.Fields(w)...)
		}
		slices.Sort(words)
		slices.Sort(parts)
		count := map[api.Errno]int{}
		for range 20000 {
			s := ""
			for range random.Intn(8) {
				switch random.Intn(20) {
				case 0:
					s += strconv.Itoa(random.Intn(10100))
				case 1:
					s += x.Style.Ordinal(1 + random.Intn(370))
				case 2:
					s += time.Date(1+random.Intn(9998), 1, random.Intn(400), 0, 0, 0, 0, time.UTC).Format("2006-01-02")
				case 3:
					s += mixed(random, parts[random.Intn(len(parts))])
				default:
					s += mixed(random, words[random.Intn(len(words))])
				}
				s += []string{" ", "  ", ",", " , ", ",,", " "}[random.Intn(6)]
			}
			if random.Intn(20) == 0 {
				at := random.Intn(len(s) + 1)
				s = s[:at] + []string{"foo", "\xff", "\t", " x"}[random.Intn(4)] + s[at:]
			}
			count[same(t, l, r, s)]++
		}
		if count[api.OK] < 5000 || count[api.ErrWord] < 500 || count[api.ErrUTF] < 100 || count[api.ErrEmpty] < 100 {
			t.Errorf("%s: errors of the phrases: %v", x.Name, count)
		}
	}
}

// P11.1, P11.2: against the second derivation, random tables whose words have random pieces in common.
func TestRandomTables(t *testing.T) {
	random := rand.New(rand.NewSource(111))
	piece := func() string { return []string{"a", "b", "ab", "é"}[random.Intn(4)] }
	for range 300 {
		some := map[key][]string{}
		for _, c := range []table.Cat{table.Every, table.On, table.Last, table.And} {
			for range 1 + random.Intn(3) {
				w := piece()
				for range random.Intn(4) {
					w += " " + piece()
				}
				some[key{Cat: c}] = append(some[key{Cat: c}], w)
			}
		}
		x := made(some)
		x.Style = plural.Style(random.Intn(int(plural.Styles)))
		l, r := token.New(x), readerOf(x)
		for w := range r.words {
			if got := l.Keys(w); !slices.Equal(got, r.words[w]) {
				t.Errorf("Keys(%q) = %v, want %v", w, got, r.words[w])
			}
		}
		for range 200 {
			s := ""
			for range random.Intn(12) {
				s += piece() + []string{" ", "  ", " ", " ", ","}[random.Intn(5)]
			}
			same(t, l, r, s)
		}
	}
}

// spare: the words of a table, with capacity to spare that holds a word too.
func spare(x *table.Table) {
	for k, list := range x.Words {
		longer := append(slices.Clone(list), "kept")
		x.Words[k] = longer[:len(list)]
	}
}

// P2 (R5): the table isn't changed, nor the spare capacity of its lists.
func TestTableIsKept(t *testing.T) {
	for i, x := range locale.All() {
		spare(x)
		l := token.New(x)
		l.Keys("in")
		l.Split("every in on an, am 1. 2 2026-11-16 en le w dnia")
		if !reflect.DeepEqual(x, locale.All()[i]) {
			t.Errorf("%s is changed", x.Name)
		}
		for k, list := range x.Words {
			if longer := list[:len(list)+1]; longer[len(list)] != "kept" {
				t.Errorf("%s: behind the words of %v is %q", x.Name, k, longer[len(list)])
			}
		}
	}
}

// P2 (R5): whoever changes an answer changes no other one, nor a list beside it.
func TestAnswersApart(t *testing.T) {
	words := map[key][]string{{Cat: table.On}: {"a", "b"}, {Cat: table.In}: {"a", "b"}, {Cat: table.And}: {"a"}}
	l := token.New(made(words))
	const s, want = "a a b, 1 b a", "0-1 In0 On0 And0, 2-3 In0 On0 And0, 4-5 In0 On0, 5-6 Comma0, 7-8 Number1, 9-10 In0 On0, 11-12 In0 On0 And0"
	kept, _, _, _ := l.Split(s)
	keptKeys := l.Keys("a")
	spoil := func(list []key) {
		list = list[:cap(list)]
		for i := range list {
			list[i] = key{Cat: table.Date, Val: 99}
		}
	}
	for i := range 7 {
		list, _, _, _ := l.Split(s)
		spoil(list[i].Keys)
		list[i].Keys = kept[i].Keys
		if got := shown(list); got != want {
			t.Errorf("with the keys of token %d changed: %s", i, got)
		}
		spoil(l.Keys("a"))
		splits(t, l, s, want)
	}
	if got := shown(kept); got != want || !slices.Equal(keptKeys, []key{{Cat: table.In}, {Cat: table.On}, {Cat: table.And}}) {
		t.Errorf("the first answers are now %s and %v", got, keptKeys)
	}
}

// P2 (R6): a lexicon answers a second time as it did the first time, whatever was asked between, and to those that ask at once.
func TestSameAgain(t *testing.T) {
	phrases := []string{"every other tuesday until june", "on  the 1st", "in foo", "", "in \xff", strings.Repeat(",", 900), strings.Repeat(" ", 5000), "co drugi dzień", "jeden zweiten montag", "tous les mois le 1er"}
	for _, x := range locale.All() {
		l, r := token.New(x), readerOf(x)
		var all sync.WaitGroup
		for range 8 {
			all.Add(1)
			go func() {
				defer all.Done()
				other := token.New(x)
				for range 20 {
					for _, s := range phrases {
						same(t, l, r, s)
						same(t, other, r, s)
					}
				}
			}()
		}
		all.Wait()
	}
}

// P2 (R6): a lexicon has its own table's words and style, whichever others there are.
func TestLexiconsApart(t *testing.T) {
	en, de, fr, pl := token.New(locale.English()), token.New(locale.German()), token.New(locale.French()), token.New(locale.Polish())
	for range 2 {
		splits(t, en, "in 1st", "0-2 In0, 3-6 Ordinal1")
		splits(t, de, "in 1.", "0-2 In0, 3-5 Ordinal1")
		splits(t, fr, "en 1er", "0-2 In0, 3-6 Ordinal1")
		splits(t, pl, "w 1.", "0-1 In0, 2-4 Ordinal1")
		fails(t, de, "in 1st", 3, 6, api.ErrWord)
		fails(t, fr, "in 1er", 0, 2, api.ErrWord)
		fails(t, en, "w 1.", 0, 1, api.ErrWord)
	}
}

// P1, R7: of tables that aren't whole nothing is promised but that the functions return.
func TestOddTables(t *testing.T) {
	odd := []string{"", " ", "  ", ",", " a", "a ", "a  b", "a,b", "A", "7", "1st", "2026-11-16", "\xff", "\x00", "\n", strings.Repeat("a ", 10000), strings.Repeat(" ", 10000)}
	many := make([]string, 1000)
	for i := range many {
		many[i] = strings.Repeat("a ", i) + "b"
	}
	tables := []*table.Table{
		{}, {Words: map[key][]string{}}, {Kind: -1, Style: -1}, {Kind: math.MaxInt, Style: math.MaxInt}, {Kind: math.MinInt, Style: math.MinInt},
		{Words: map[key][]string{{Cat: table.On}: odd}}, {Words: map[key][]string{{Cat: table.On}: many, {Cat: table.Month, Val: 3}: many}}, {Words: map[key][]string{{Cat: table.On}: nil, {Cat: -1}: odd}},
	}
	for _, x := range tables {
		l := token.New(x)
		for _, s := range append(odd, "a", "b", "a b", strings.Repeat("a ", 2048), strings.Repeat("b ", 2048), "7 1st 1. 1er 2e", "on the") {
			l.Keys(s)
			if list, from, to, err := l.Split(s); err != api.OK && (len(list) != 0 || from < 0 || to < from || to > len(s)) {
				t.Errorf("Split(%.40q) = %d tokens; %d, %d, %d", s, len(list), from, to, err)
			}
		}
	}
}

func FuzzSplit(f *testing.F) { // P11.2, P1
	for _, s := range []string{"", "on  the 1st", "JEDEN ZWEITEN tag", "un sur deux, 1er", "co drugą środę 3.", "2026-11-16,9999", "in \xff", "foo", "0 00"} {
		f.Add(s)
	}
	type pair struct {
		l *token.Lexicon
		r reader
	}
	var pairs []pair
	for _, x := range locale.All() {
		pairs = append(pairs, pair{token.New(x), readerOf(x)})
	}
	f.Fuzz(func(t *testing.T, s string) {
		for _, p := range pairs {
			same(t, p.l, p.r, s)
			if got := p.l.Keys(s); !slices.Equal(got, p.r.words[s]) {
				t.Errorf("Keys(%q) = %v, want %v", s, got, p.r.words[s])
			}
		}
	})
}
