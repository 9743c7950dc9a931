package locale_test

import (
	"maps"
	"reflect"
	"slices"
	"strings"
	"testing"

	"kalends/api"
	"kalends/locale"
	"kalends/plural"
	"kalends/table"
)

type key = table.Key

// chapter: the words as chapter 9 lists them, language by language.
const chapter = `
en  two forms, English ordinals
Every    every,each                 Other   every other,every second
Unit     day,days,days|week,weeks,weeks|month,months,months|year,years,years
Adverb   daily|weekly|monthly|yearly,annually
Twice    bidaily|biweekly|bimonthly|biyearly,biannually
In in    On on the,on    Only only the,only    Until until,till    For for    And and    Last last,to last    Times time,times,times
Month    january,jan|february,feb|march,mar|april,apr|may|june,jun|july,jul|august,aug|september,sep|october,oct|november,nov|december,dec
Weekday  monday,mondays,mon|tuesday,tuesdays,tue|wednesday,wednesdays,wed|thursday,thursdays,thu|friday,fridays,fri|saturday,saturdays,sat|sunday,sundays,sun

de  two forms, ordinals with a point
Every    alle,jeden,jede,jedes      Other   jeden zweiten,jede zweite,jedes zweite
Unit     tag,tage,tage,tagen|woche,wochen,wochen|monat,monate,monate,monaten|jahr,jahre,jahre,jahren
Adverb   täglich|wöchentlich|monatlich|jährlich
Twice    zweitäglich|zweiwöchentlich|zweimonatlich|zweijährlich
In im,in    On am,an    Only nur am,nur    Until bis,bis zum    For insgesamt    And und    Last letzten,letzter,vom ende    Times mal,mal,mal
Month    januar,jänner|februar|märz|april|mai|juni|juli|august|september|oktober|november|dezember
Weekday  montag,montags|dienstag,dienstags|mittwoch,mittwochs|donnerstag,donnerstags|freitag,freitags|samstag,samstags,sonnabend|sonntag,sonntags

fr  French forms, ordinals with er, e
Every    tous les,toutes les,chaque   Other   un sur deux,une sur deux
Unit     jour,jours,jours|semaine,semaines,semaines|mois,mois,mois|an,ans,ans,année,années
Adverb   quotidiennement|hebdomadairement|mensuellement|annuellement
Twice    biquotidiennement|bihebdomadairement|bimensuellement|biannuellement
In en    On le,les    Only seulement le,seulement    Until jusqu'au,jusqu'en,jusque    For pendant    And et    Last dernier,dernière,avant la fin    Times fois,fois,fois
Month    janvier|février|mars|avril|mai|juin|juillet|août|septembre|octobre|novembre|décembre
Weekday  lundi,lundis|mardi,mardis|mercredi,mercredis|jeudi,jeudis|vendredi,vendredis|samedi,samedis|dimanche,dimanches

pl  Polish forms, ordinals with a point
Every    co,każdy,każda,każde,każdą   Other   co drugi,co druga,co drugą
Unit     dzień,dni,dni|tydzień,tygodnie,tygodni|miesiąc,miesiące,miesięcy|rok,lata,lat
Adverb   codziennie|cotygodniowo|comiesięcznie|corocznie
Twice    dwudniowo|dwutygodniowo|dwumiesięcznie|dwuletnio
In w    On dnia,we    Only tylko    Until do    For przez    And i,oraz    Last ostatni,ostatnia,od końca    Times raz,razy,razy
Month    styczniu,styczeń,stycznia|lutym,luty,lutego|marcu,marzec,marca|kwietniu,kwiecień,kwietnia|maju,maj,maja|czerwcu,czerwiec,czerwca|lipcu,lipiec,lipca|sierpniu,sierpień,sierpnia|wrześniu,wrzesień,września|październiku,październik,października|listopadzie,listopad,listopada|grudniu,grudzień,grudnia
Weekday  poniedziałek,poniedziałki|wtorek,wtorki|środa,środę,środy|czwartek,czwartki|piątek,piątki|sobota,sobotę,soboty|niedziela,niedzielę,niedziele
`

// languages: what the chapter says of each but its words, in its order.
var languages = []struct {
	name  string
	of    func() *table.Table
	kind  plural.Kind
	style plural.Style
}{
	{"en", locale.English, plural.Two, plural.English},
	{"de", locale.German, plural.Two, plural.Point},
	{"fr", locale.French, plural.French, plural.Er},
	{"pl", locale.Polish, plural.Polish, plural.Point},
}

var cats = map[string]table.Cat{
	"Every": table.Every, "Other": table.Other, "Unit": table.Unit, "Adverb": table.Adverb, "Twice": table.Twice, "In": table.In, "On": table.On, "Only": table.Only,
	"Until": table.Until, "For": table.For, "And": table.And, "Last": table.Last, "Times": table.Times, "Month": table.Month, "Weekday": table.Weekday,
}

// wordsOf: the chapter's words of the language that stands at a place of it.
func wordsOf(t *testing.T, at int) map[key][]string {
	t.Helper()
	lines := strings.Split(strings.Split(strings.TrimSpace(chapter), "\n\n")[at], "\n")
	if name := strings.Fields(lines[0])[0]; name != languages[at].name {
		t.Fatalf("the chapter's language %d is %s, want %s", at, name, languages[at].name)
	}
	all := map[key][]string{}
	cat, open := table.Cats, ""
	end := func() {
		if open == "" {
			return
		}
		for v, list := range strings.Split(open, "|") {
			all[key{Cat: cat, Val: v}] = strings.Split(list, ",")
		}
		open = ""
	}
	for _, field := range strings.Fields(strings.Join(lines[1:], " ")) {
		if next, ok := cats[field]; ok {
			end()
			cat = next
		} else {
			open = strings.TrimSpace(open + " " + field)
		}
	}
	end()
	return all
}

// same: is a table the chapter's language that stands at a place of it?
func same(t *testing.T, what string, x *table.Table, at int) {
	t.Helper()
	if x == nil {
		t.Errorf("%s: no table", what)
		return
	}
	l := languages[at]
	if x.Name != l.name || x.Kind != l.kind || x.Style != l.style {
		t.Errorf("%s: name %q, kind %d, style %d, want %q, %d, %d", what, x.Name, x.Kind, x.Style, l.name, l.kind, l.style)
	}
	want := wordsOf(t, at)
	for k, list := range want {
		if !slices.Equal(x.Words[k], list) {
			t.Errorf("%s: the words of %v are %q, want %q", what, k, x.Words[k], list)
		}
	}
	for k, list := range x.Words {
		if _, ok := want[k]; !ok {
			t.Errorf("%s: words of %v, which has none: %q", what, k, list)
		}
	}
}

// P9.1
func TestTables(t *testing.T) {
	for i, l := range languages {
		same(t, l.name, l.of(), i)
	}
}

// P9.1, P8.2
func TestWhole(t *testing.T) {
	for _, l := range languages {
		x := l.of()
		if err := x.Check(); err != api.OK {
			t.Errorf("Check of %s = %d", l.name, err)
		}
		keys := 0
		for c := range table.Cats {
			keys += c.Many()
		}
		if len(x.Words) != keys {
			t.Errorf("%s has words for %d keys, want %d", l.name, len(x.Words), keys)
		}
	}
}

// written: what is to be written in a language for the values of a category with a number, one after the other.
type written struct {
	of    func() *table.Table
	cat   table.Cat
	n     int
	texts string
}

// P9.1, P8.1: what is written, and in which form.
func TestWritten(t *testing.T) {
	for _, x := range []written{
		{locale.English, table.Every, 1, "every"},
		{locale.English, table.Other, 1, "every other"},
		{locale.English, table.Unit, 1, "day|week|month|year"},
		{locale.English, table.Unit, 0, "days|weeks|months|years"},
		{locale.English, table.Unit, 2, "days|weeks|months|years"},
		{locale.English, table.Adverb, 1, "daily|weekly|monthly|yearly"},
		{locale.English, table.Twice, 1, "bidaily|biweekly|bimonthly|biyearly"},
		{locale.English, table.On, 1, "on the"},
		{locale.English, table.Only, 2, "only the"},
		{locale.English, table.Times, 1, "time"},
		{locale.English, table.Times, 10, "times"},
		{locale.English, table.Month, 1, "january|february|march|april|may|june|july|august|september|october|november|december"},
		{locale.English, table.Weekday, 5, "monday|tuesday|wednesday|thursday|friday|saturday|sunday"},
		{locale.German, table.Every, 1, "alle"},
		{locale.German, table.Other, 1, "jeden zweiten"},
		{locale.German, table.Unit, 1, "tag|woche|monat|jahr"},
		{locale.German, table.Unit, 3, "tage|wochen|monate|jahre"},
		{locale.German, table.Adverb, 1, "täglich|wöchentlich|monatlich|jährlich"},
		{locale.German, table.Only, 1, "nur am"},
		{locale.German, table.Until, 1, "bis"},
		{locale.German, table.For, 1, "insgesamt"},
		{locale.German, table.Last, 1, "letzten"},
		{locale.German, table.Times, 1, "mal"},
		{locale.German, table.Times, 2, "mal"},
		{locale.German, table.Month, 3, "januar|februar|märz|april|mai|juni|juli|august|september|oktober|november|dezember"},
		{locale.German, table.Weekday, 1, "montag|dienstag|mittwoch|donnerstag|freitag|samstag|sonntag"},
		{locale.French, table.Every, 1, "tous les"},
		{locale.French, table.Other, 1, "un sur deux"},
		{locale.French, table.Unit, 0, "jour|semaine|mois|an"},
		{locale.French, table.Unit, 1, "jour|semaine|mois|an"},
		{locale.French, table.Unit, 2, "jours|semaines|mois|ans"},
		{locale.French, table.In, 1, "en"},
		{locale.French, table.Until, 1, "jusqu'au"},
		{locale.French, table.Last, 1, "dernier"},
		{locale.French, table.Times, 9999, "fois"},
		{locale.French, table.Month, 1, "janvier|février|mars|avril|mai|juin|juillet|août|septembre|octobre|novembre|décembre"},
		{locale.French, table.Weekday, 1, "lundi|mardi|mercredi|jeudi|vendredi|samedi|dimanche"},
		{locale.Polish, table.Every, 1, "co"},
		{locale.Polish, table.Other, 1, "co drugi"},
		{locale.Polish, table.Unit, 1, "dzień|tydzień|miesiąc|rok"},
		{locale.Polish, table.Unit, 2, "dni|tygodnie|miesiące|lata"},
		{locale.Polish, table.Unit, 5, "dni|tygodni|miesięcy|lat"},
		{locale.Polish, table.Unit, 12, "dni|tygodni|miesięcy|lat"},
		{locale.Polish, table.Unit, 22, "dni|tygodnie|miesiące|lata"},
		{locale.Polish, table.Twice, 1, "dwudniowo|dwutygodniowo|dwumiesięcznie|dwuletnio"},
		{locale.Polish, table.On, 1, "dnia"},
		{locale.Polish, table.And, 1, "i"},
		{locale.Polish, table.Times, 1, "raz"},
		{locale.Polish, table.Times, 3, "razy"},
		{locale.Polish, table.Times, 5, "razy"},
		{locale.Polish, table.Month, 1, "styczniu|lutym|marcu|kwietniu|maju|czerwcu|lipcu|sierpniu|wrześniu|październiku|listopadzie|grudniu"},
		{locale.Polish, table.Weekday, 1, "poniedziałek|wtorek|środa|czwartek|piątek|sobota|niedziela"},
	} {
		l := x.of()
		for v, want := range strings.Split(x.texts, "|") {
			if got := l.Word(key{Cat: x.cat, Val: v}, x.n); got != want {
				t.Errorf("%s: Word({%d %d}, %d) = %q, want %q", l.Name, x.cat, v, x.n, got, want)
			}
		}
		if got := l.Word(key{Cat: x.cat, Val: x.cat.Many()}, x.n); got != "" {
			t.Errorf("%s: a word behind the last value of %d: %q", l.Name, x.cat, got)
		}
	}
}

// P9.1
func TestAll(t *testing.T) {
	list := locale.All()
	if len(list) != len(languages) {
		t.Fatalf("All has %d tables, want %d", len(list), len(languages))
	}
	for i, x := range list {
		same(t, "All's "+languages[i].name, x, i)
	}
}

// P9.1
func TestNamed(t *testing.T) {
	for i, l := range languages {
		same(t, "Named "+l.name, locale.Named(l.name), i)
	}
	if got := locale.Named("fr").Word(key{Cat: table.Weekday}, 1); got != "lundi" {
		t.Errorf("the chapter's example writes %q", got)
	}
}

// P9.1: a name is a table's byte by byte, or none's.
func TestNamedOfNone(t *testing.T) {
	names := []string{
		"", " ", "it", "es", "e", "n", "d", "f", "p", "l", "eng", "ger", "fra", "pol", "english", "English", "Deutsch", "français", "polski",
		"ne", "ed", "rf", "lp", "ende", "en de", "en,de", "en|de", "endefrpl", "\xff", "\x00", "0", "ｅｎ", strings.Repeat("en", 10000),
	}
	for _, l := range languages {
		names = append(names, strings.ToUpper(l.name), strings.ToUpper(l.name[:1])+l.name[1:], l.name[:1]+strings.ToUpper(l.name[1:]))
		for _, c := range []string{" ", "\x00", "\n", "\xff", "-", "_US", "a"} {
			names = append(names, l.name+c, c+l.name)
		}
	}
	for _, name := range names {
		if x := locale.Named(name); x != nil {
			t.Errorf("Named(%.20q) = %s, want none", name, x.Name)
		}
	}
}

// P9.1: of all names of up to three of some characters, just the four are a table's.
func TestNamedOfShortNames(t *testing.T) {
	texts := []string{""}
	found := map[string]int{}
	for i := 0; i < len(texts); i++ {
		if x := locale.Named(texts[i]); x != nil {
			found[texts[i]]++
			if x.Name != texts[i] {
				t.Errorf("Named(%q) = %s", texts[i], x.Name)
			}
		}
		if len(texts[i]) < 3 {
			for _, c := range "defnlpr E" {
				texts = append(texts, texts[i]+string(c))
			}
		}
	}
	if want := map[string]int{"en": 1, "de": 1, "fr": 1, "pl": 1}; !maps.Equal(found, want) {
		t.Errorf("the names of tables are %v, want %v", found, want)
	}
}

// spoil changes all that can be reached from a table.
func spoil(x *table.Table) {
	for k, list := range x.Words {
		list = list[:cap(list)]
		for i := range list {
			list[i] = "spoilt"
		}
		x.Words[k] = append(x.Words[k], "spoilt")
	}
	clear(x.Words)
	*x = table.Table{Name: "spoilt", Kind: plural.Kinds, Style: plural.Styles, Words: x.Words}
	x.Words[key{Cat: table.Comma}] = []string{"spoilt"}
}

// P9.1, R5: what is done to one table doesn't reach another, whichever calls returned them.
func TestNewTables(t *testing.T) {
	for i, l := range languages {
		ways := []func() *table.Table{l.of, func() *table.Table { return locale.Named(l.name) }, func() *table.Table { return locale.All()[i] }}
		for _, first := range ways {
			for _, second := range ways {
				kept, x := second(), first()
				if kept == x {
					t.Fatalf("%s: one table twice", l.name)
				}
				spoil(x)
				same(t, l.name+" of an earlier call", kept, i)
				same(t, l.name+" of a later call", second(), i)
			}
		}
	}
}

// P9.1, R5: All's list and its tables are new too.
func TestNewAll(t *testing.T) {
	kept, list := locale.All(), locale.All()
	for i, x := range list {
		spoil(x)
		for j := i + 1; j < len(list); j++ {
			same(t, "a table beside a changed one", list[j], j)
		}
	}
	clear(list[:cap(list)])
	for i := range languages {
		same(t, "All of an earlier call", kept[i], i)
		same(t, "All of a later call", locale.All()[i], i)
	}
}

// R5: no two lists of a table share memory, nor their spare capacity.
func TestListsApart(t *testing.T) {
	for i, l := range languages {
		for k := range wordsOf(t, i) {
			x := l.of()
			list := x.Words[k]
			list = list[:cap(list)]
			for at := range list {
				list[at] = "spoilt"
			}
			x.Words[k] = l.of().Words[k]
			same(t, l.name+" with one list changed", x, i)
		}
	}
}

// R6: a second call answers as the first one, and so do calls that run at once.
func TestSameAgain(t *testing.T) {
	first := locale.All()
	answers := make(chan []*table.Table)
	for range 8 {
		go func() {
			list := locale.All()
			for i, x := range list {
				list[i] = locale.Named(x.Name)
			}
			answers <- list
		}()
	}
	for range 8 {
		if list := <-answers; !reflect.DeepEqual(list, first) {
			t.Errorf("the tables are not the same again: %v", list)
		}
	}
}
