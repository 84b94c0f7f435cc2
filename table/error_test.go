package table_test

import (
	"math"
	"slices"
	"strings"
	"testing"

	"timeball/api"
	"timeball/book"
	"timeball/names"
	"timeball/table"
	"timeball/turns"
)

// badSpans are spans for which there is no table.
func badSpans() (list []api.Span) {
	beyond := []int{firstTime - 1, lastTime + 1, firstTime - dayLength, lastTime + dayLength, -1 << 40, 1 << 40, -1<<40 - 1, 1<<40 + 1, -1 << 62, 1 << 62, math.MinInt, math.MinInt + 1, math.MaxInt - 1, math.MaxInt}
	for _, at := range beyond {
		for _, other := range append([]int{firstTime, -1, 0, 1, lastTime}, beyond...) {
			list = append(list, api.Span{From: at, To: other}, api.Span{From: other, To: at})
		}
	}
	for _, at := range []int{firstTime, firstTime + 1, -1, 0, 1, 1 << 32, lastTime - 1, lastTime} {
		for _, to := range []int{at, at - 1, at - 2, at - dayLength, firstTime, math.MinInt} {
			if to <= at {
				list = append(list, api.Span{From: at, To: to})
			}
		}
	}
	return list
}

// goodSpans are spans that have tables.
var goodSpans = []api.Span{always, {From: firstTime, To: firstTime + 1}, {From: -1, To: 0}, {From: 0, To: 1}, {From: 0, To: 1 << 33}, {From: lastTime - 1, To: lastTime}}

// P17: ends without timestamps, To equal to From and less.
func TestBadSpans(t *testing.T) {
	b := exampleBook()
	for _, s := range badSpans() {
		for _, name := range []string{"Europe/Berlin", "Berlin", "B", "America/New_York", "UTC", "Mixed"} {
			checkNone(t, b, name, s, api.ErrArg)
		}
	}
	for _, s := range goodSpans {
		for _, name := range []string{"B", "America/New_York", "UTC"} {
			if e := checkMake(t, b, name, s); e != api.OK {
				t.Errorf("%s, %v: error %d", name, s, e)
			}
		}
	}
}

// P17: names of neither zones nor links, of rules among them, and the empty
// book, with spans that may be and that may not.
func TestNoZone(t *testing.T) {
	list := []string{"", "EU", "US", "Bad", "S", "LMT", "CET", "CE%T", "Europe", "europe/berlin", "Europe/Berlin ", "b", "utc", "UTCC", "zone", "Zone", "-", "\x00", "\xff", strings.Repeat("UTC", 1<<10)}
	for _, s := range append(badSpans(), goodSpans...) {
		for _, name := range list {
			checkNone(t, exampleBook(), name, s, api.ErrNone)
		}
		for _, b := range []api.Book{{}, {Rules: []api.Rule{}, Zones: []api.Zone{}, Links: []api.Link{}}, {Rules: exampleBook().Rules}} {
			for _, name := range append(list, "UTC", "Europe/Berlin") {
				checkNone(t, b, name, s, api.ErrNone)
			}
		}
	}
}

// P17: links that lead to a cycle, beside zones and without them.
func TestCycles(t *testing.T) {
	b := exampleBook()
	alone := api.Book{Links: slices.Clone(b.Links[2:])}
	for _, s := range append(badSpans(), goodSpans...) {
		for _, name := range []string{"Self", "Hen", "Egg", "Nest"} {
			checkNone(t, b, name, s, api.ErrLoop)
			checkNone(t, alone, name, s, api.ErrLoop)
		}
	}
}

// A flaw makes the example's book a bad one.
type flaw struct {
	change func(b *api.Book)
	want   api.Errno
}

func flaws() []flaw {
	return []flaw{
		{func(b *api.Book) { b.Rules = slices.Repeat(b.Rules, 10) }, api.ErrLarge},
		{func(b *api.Book) { b.Zones = make([]api.Zone, maxZones+1) }, api.ErrLarge},
		{func(b *api.Book) { b.Links = make([]api.Link, maxLinks+1) }, api.ErrLarge},
		{func(b *api.Book) { b.Rules[2].Name = "" }, api.ErrSyntax},
		{func(b *api.Book) { b.Rules[2].Letter = "%" }, api.ErrSyntax},
		{func(b *api.Book) { b.Rules[0].From = 1899 }, api.ErrArg},
		{func(b *api.Book) { b.Rules[0].To = math.MaxInt }, api.ErrArg},
		{func(b *api.Book) { b.Rules[5].On = api.Day{} }, api.ErrArg},
		{func(b *api.Book) { b.Rules[5].Save = maxSave + 1 }, api.ErrArg},
		{func(b *api.Book) { b.Zones[1].Name = "1" }, api.ErrSyntax},
		{func(b *api.Book) { b.Zones[1].Name = "Europe/Berlin" }, api.ErrTwice},
		{func(b *api.Book) { b.Zones[2].Eras = nil }, api.ErrForm},
		{func(b *api.Book) { b.Zones[2].Eras = make([]api.Era, maxEras+1) }, api.ErrLarge},
		{func(b *api.Book) { b.Zones[2].Eras[0].Offset = maxOffset + 1 }, api.ErrArg},
		{func(b *api.Book) { b.Zones[1].Eras[0].Save = 1 }, api.ErrForm},
		{func(b *api.Book) { b.Zones[1].Eras[0].Rules = "Nobody" }, api.ErrNone},
		{func(b *api.Book) { b.Zones[2].Eras[0].Format = "" }, api.ErrSyntax},
		{func(b *api.Book) { b.Zones[1].Eras[0].Format = "ABCDEFGH%" }, api.ErrLarge},
		{func(b *api.Book) { b.Zones[1].Eras[0].Format = "%" }, api.ErrForm},
		{func(b *api.Book) { b.Zones[0].Eras[0].Until = lastTime + 1 }, api.ErrArg},
		{func(b *api.Book) { b.Zones[0].Eras[1].Until = b.Zones[0].Eras[0].Until }, api.ErrForm},
		{func(b *api.Book) { b.Zones[2].Eras[0].Until = 1 }, api.ErrForm},
		{func(b *api.Book) { b.Links[5].Name = "UTC" }, api.ErrTwice},
		{func(b *api.Book) { b.Links[5].To = "EU" }, api.ErrNone},
	}
}

// P17: a bad book yields the error of Check, whichever name and span are asked
// for, also where the flaw is in another zone.
func TestBadBooks(t *testing.T) {
	spans := slices.Concat(goodSpans, badSpans()[:20], []api.Span{{From: 5, To: 5}, {From: 6, To: 5}, {From: math.MaxInt, To: math.MinInt}})
	for i, flaw := range flaws() {
		b := with(flaw.change)
		if e := book.Check(b); e != flaw.want {
			t.Fatalf("flaw %d: Check = %d, want %d", i, e, flaw.want)
		}
		for _, name := range []string{"Europe/Berlin", "B", "America/New_York", "UTC", "Mixed", "Self", "Nest", "Nobody", ""} {
			if _, e := names.Resolve(b, name); e != flaw.want {
				t.Fatalf("flaw %d: Resolve = %d, want %d", i, e, flaw.want)
			}
			for _, s := range spans {
				checkNone(t, b, name, s, flaw.want)
			}
		}
	}
}

// ruledZones returns a book with zones of three eras from 1990 to 2000, 2010 and
// later, whose names are made of the names of their rules. The rules F are such
// that turns.Of returns ErrForm, those of L such that it returns ErrLarge; G is
// good, and N is none.
func ruledZones() api.Book {
	b := bookOf("rule F 2000 2000 4 1 2:00 1:00 S", "rule F 2000 2000 4 1 3:00 0:00 -", "rule G 2000 2000 4 1 2:00u 1:00 S")
	b.Rules = append(b.Rules, manyYears("L", maxYears+1, 8).Rules...)
	for _, name := range []string{"FLG", "LFG", "GFL", "GLF", "GGF", "GGL", "FGG", "LGG", "GFG", "GLG", "FNN", "LNN", "NFN", "NLN", "NNF", "NNL", "NFL", "NLF", "LLF", "FFL"} {
		zone := api.Zone{Name: name}
		for i := range name {
			era := api.Era{Format: "x%", Rules: name[i : i+1], Until: timeOf([]string{"2000-01-01T00:00:00", "2010-01-01T00:00:00", "1970-01-01T00:00:00"}[i])}
			if era.Rules == "N" {
				era.Rules = ""
			}
			zone.Eras = append(zone.Eras, era)
		}
		b.Zones = append(b.Zones, zone)
	}
	for i := range 5 {
		b.Links = append(b.Links, api.Link{Name: "To" + b.Zones[i].Name, To: b.Zones[i].Name})
	}
	if e := book.Check(b); e != api.OK {
		panic("no book")
	}
	return b
}

// P17: the errors of turns.Of, for each era that has rules, in their order, also
// for an era that does not lie in the span; a span that may not be comes first.
func TestErrorsOfRules(t *testing.T) {
	b := ruledZones()
	spans := append(goodSpans, spanOf("1980-01-01T00:00:00", "1981-01-01T00:00:00"), spanOf("2000-01-01T00:00:00", "2010-01-01T00:00:00"), spanOf("2009-12-31T23:59:59", "2010-01-01T00:00:01"),
		spanOf("2005-01-01T00:00:00", "2006-01-01T00:00:00"), spanOf("2010-01-01T00:00:00", "2011-01-01T00:00:00"), spanOf("1999-12-31T23:59:59", "2000-01-01T00:00:00"))
	check := func(name string, want api.Errno) {
		for _, s := range spans {
			checkNone(t, b, name, s, want)
		}
		for _, s := range badSpans() {
			checkNone(t, b, name, s, api.ErrArg)
		}
	}
	for _, zone := range b.Zones {
		check(zone.Name, errorOf(zone.Name))
	}
	for _, link := range b.Links {
		check(link.Name, errorOf(link.To))
	}
}

// errorOf returns the error of a zone of ruledZones, which its name tells.
func errorOf(name string) api.Errno {
	if first := strings.IndexAny(name, "FL"); name[first] == 'L' {
		return api.ErrLarge
	}
	return api.ErrForm
}

// P17: bad rules do no harm to a zone of which no era has them.
func TestBadRulesOfOtherZones(t *testing.T) {
	b := ruledZones()
	b.Zones[0].Eras[0].Rules, b.Zones[0].Eras[1].Rules, b.Zones[0].Eras[2].Rules = "", "G", ""
	b.Zones[0].Name = "A"
	b.Links = nil
	checkTable(t, b, "A", always, tableOf(standard(0, "x"), step{"2000-04-01T02:00:00", summer(3600, "xS")}, step{"2010-01-01T00:00:00", standard(0, "x")}))
}

// P17: the same rules have transitions with the offset of one era, and have none
// with that of another one.
func TestErrorsThatDependOnTheOffset(t *testing.T) {
	b := bookOf("rule R 2000 2000 4 1 2:00s 1:00 S", "rule R 2000 2000 4 1 3:00u 0:00 -",
		"zone A\nera -1:00 R A% 1990-01-01T00:00:00\nera 1:00 R B%", "zone B\nera 1:00 R A% 1990-01-01T00:00:00\nera -1:00 R B%",
		"zone C\nera 1:00 R A% 1990-01-01T00:00:00\nera -0:59:59 R B%", "zone D\nera 1:00 R A% 1990-01-01T00:00:00\nera -1:00 -0:00 B 1991-01-01T00:00:00\nera -18:00 R C%")
	if _, e := turns.Of(b, "R", -hour); e != api.ErrForm {
		t.Fatalf("the rules have transitions: %d", e)
	}
	for _, s := range append(goodSpans, spanOf("1990-01-01T00:00:00", "2010-01-01T00:00:00"), spanOf("1980-01-01T00:00:00", "1990-01-01T00:00:00")) {
		for _, name := range []string{"A", "B", "D"} {
			checkNone(t, b, name, s, api.ErrForm)
		}
		if e := checkMake(t, b, "C", s); e != api.OK {
			t.Errorf("C, %v: error %d", s, e)
		}
	}
}

// P17: rules without transitions come before too many types and changes, also if
// the eras with too many of them come first.
func TestLastErrors(t *testing.T) {
	types := manyEras(maxTypes+1, maxTypes+1)
	changes := manyYears("R", maxYears, 8)
	for i := range changes.Rules {
		changes.Rules[i].Save = i % 2 * hour
	}
	changes.Zones = []api.Zone{{Name: "A", Eras: []api.Era{{Rules: "R", Format: "x%", Until: lastTime - 1}, {Format: "A"}}}}
	for _, b := range []api.Book{types, changes} {
		checkNone(t, b, "A", always, api.ErrLarge)
		b.Rules = append(b.Rules, bookOf("rule F 2000 2000 4 1 2:00 1:00 S", "rule F 2000 2000 4 1 3:00 0:00 -").Rules...)
		eras := b.Zones[0].Eras
		last := &eras[len(eras)-1]
		last.Rules, last.Format = "F", "x%"
		for _, s := range append(goodSpans, spanOf("1900-01-01T00:00:00", "2100-01-01T00:00:00")) {
			checkNone(t, b, "A", s, api.ErrForm)
		}
		for _, s := range badSpans() {
			checkNone(t, b, "A", s, api.ErrArg)
		}
	}
}

// P1: books and tables that are far from being good.
func TestHugeArguments(t *testing.T) {
	for _, b := range []api.Book{
		{Rules: make([]api.Rule, 1<<16)}, {Zones: make([]api.Zone, 1<<16)}, {Links: make([]api.Link, 1<<16)},
		{Zones: []api.Zone{{Name: "A", Eras: make([]api.Era, 1<<16)}}},
	} {
		for _, s := range []api.Span{always, {}, {From: math.MinInt, To: math.MaxInt}, {From: math.MaxInt, To: math.MinInt}} {
			checkNone(t, b, "A", s, api.ErrLarge)
			checkNone(t, b, "", s, api.ErrLarge)
		}
	}
	for _, x := range []api.Table{{Types: make([]api.Type, 1<<20)}, {Changes: make([]api.Change, 1<<20)}, {Types: make([]api.Type, 1<<16), First: math.MinInt, Changes: make([]api.Change, 1<<16)}} {
		checkBad(t, x, api.ErrLarge)
		for _, at := range around {
			if kind, e := table.At(x, at); kind != (api.Type{}) || e != api.ErrLarge {
				t.Errorf("At(%d) = %v, %d", at, kind, e)
			}
		}
	}
}
