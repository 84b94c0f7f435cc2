package state_test

import (
	"math"
	"slices"
	"strings"
	"testing"

	"timeball/api"
	"timeball/book"
	"timeball/turns"
)

// beyond are times without timestamps.
var beyond = []int{firstTime - 1, lastTime + 1, firstTime - dayLength, lastTime + dayLength, -1 << 40, 1 << 40, -1<<40 - 1, 1<<40 + 1, -1 << 62, 1 << 62, math.MinInt, math.MinInt + 1, math.MaxInt}

// manyYears returns a book with a number of rules for a number of years in
// total. No two of them have the same day, so that their times increase.
func manyYears(name string, years, rules int) (b api.Book) {
	for i := range rules {
		share := years / (rules - i)
		years -= share
		on := api.Day{Kind: 1, N: 1 + i/12*7}
		b.Rules = append(b.Rules, api.Rule{Name: name, From: 1900, To: 1900 + share - 1, Month: 1 + i%12, On: on, Letter: "-"})
	}
	return b
}

// P15: times without timestamps, in each zone of the example, whether the rules
// of the era that would apply have transitions or not.
func TestTimesOutOfBounds(t *testing.T) {
	b := exampleBook()
	for _, at := range beyond {
		for _, name := range []string{"Europe/Berlin", "Berlin", "B", "America/New_York", "UTC", "Mixed"} {
			checkError(t, b, name, at, api.ErrArg)
		}
		checkError(t, b, "Nobody", at, api.ErrNone)
		checkError(t, b, "Self", at, api.ErrLoop)
	}
}

// P15: rules whose transitions do not increase, or that have too many years: a
// time out of bounds comes first.
func TestRulesWithErrors(t *testing.T) {
	many := manyYears("Many", maxYears+1, 8)
	most := manyYears("Most", maxYears, 8)
	b := bookOf("rule Bad 2000 2000 4 1 2:00 1:00 S", "rule Bad 2000 2000 4 1 3:00 0:00 -",
		"zone Bad\nera 1:00 Bad A%", "zone Twice\nera 1:00 Bad A% 2000-01-01T00:00:00\nera 1:00 Bad B%")
	b.Rules = slices.Concat(b.Rules, many.Rules, most.Rules)
	for _, name := range []string{"Many", "Most"} {
		b.Zones = append(b.Zones, api.Zone{Name: name, Eras: []api.Era{{Rules: name, Format: "A"}}})
	}
	b.Links = []api.Link{{Name: "L", To: "Bad"}, {Name: "M", To: "Many"}, {Name: "N", To: "M"}}
	if e := book.Check(b); e != api.OK {
		t.Fatalf("no book: error %d", e)
	}
	for _, at := range []int{firstTime, timeOf("1900-01-01T00:00:00") - 1, -1, 0, 1, timeOf("2000-04-01T01:00:00"), lastTime} {
		for name, want := range map[string]api.Errno{"Bad": api.ErrForm, "Twice": api.ErrForm, "L": api.ErrForm, "Many": api.ErrLarge, "M": api.ErrLarge, "N": api.ErrLarge} {
			checkError(t, b, name, at, want)
		}
		checkType(t, b, "Most", at, standard(0, "A"))
	}
	for _, at := range beyond {
		for _, name := range []string{"Bad", "Twice", "L", "Many", "M", "N", "Most"} {
			checkError(t, b, name, at, api.ErrArg)
		}
		checkError(t, b, "Nobody", at, api.ErrNone)
	}
}

// P15: only the rules of the era that applies count: those before it, behind it
// and of other zones may be bad.
func TestErrorsOfOtherEras(t *testing.T) {
	many := manyYears("Many", maxYears+1, 8)
	rules := "rule Bad 2000 2000 4 1 2:00 1:00 S\nrule Bad 2000 2000 4 1 3:00 0:00 -\nrule Good 2000 2000 4 1 2:00u 1:00 S"
	for _, name := range []string{"Bad", "Many"} {
		want := map[string]api.Errno{"Bad": api.ErrForm, "Many": api.ErrLarge}[name]
		b := bookOf(rules, "zone A\nera 1:00 -0:00 A 1990-01-01T00:00:00\nera 1:00 Bad B 1995-01-01T00:00:00\nera 1:00 Good C% 2010-01-01T00:00:00\nera 1:00 Bad D 2020-01-01T00:00:00\nera 1:00 -1:00 E",
			"zone B\nera 1:00 Bad B", "zone C\nera 1:00 Good C%")
		b.Rules = append(b.Rules, many.Rules...)
		b.Zones[0].Eras[1].Rules, b.Zones[0].Eras[3].Rules, b.Zones[1].Eras[0].Rules = name, name, name
		checkStamps(t, b, "A", map[string]api.Type{
			"1600-01-01T00:00:00": standard(3600, "A"), "1989-12-31T23:59:59": standard(3600, "A"), "1995-01-01T00:00:00": standard(3600, "C"),
			"2000-04-01T01:59:59": standard(3600, "C"), "2000-04-01T02:00:00": summer(7200, "CS"), "2009-12-31T23:59:59": summer(7200, "CS"),
			"2020-01-01T00:00:00": summer(7200, "E"), "2399-12-31T23:59:59": summer(7200, "E"),
		})
		for _, stamp := range []string{"1990-01-01T00:00:00", "1994-12-31T23:59:59", "2010-01-01T00:00:00", "2019-12-31T23:59:59"} {
			checkError(t, b, "A", timeOf(stamp), want)
			checkError(t, b, "B", timeOf(stamp), want)
		}
		checkSince(t, b, "C", "2000-04-01T02:00:00", standard(3600, "C"), summer(7200, "CS"))
	}
}

// P15: the same rules increase with the offset of one era, and do not with that
// of another one.
func TestErrorsThatDependOnTheOffset(t *testing.T) {
	b := bookOf("rule R 2000 2000 4 1 2:00s 1:00 S", "rule R 2000 2000 4 1 3:00u 0:00 -",
		"zone A\nera -1:00 R A% 1990-01-01T00:00:00\nera -0:59:59 R B% 2000-04-01T02:59:59\nera 1:00 R C% 2010-01-01T00:00:00\nera -18:00 R D%")
	checkError(t, b, "A", firstTime, api.ErrForm)
	checkError(t, b, "A", timeOf("1989-12-31T23:59:59"), api.ErrForm)
	checkStamps(t, b, "A", map[string]api.Type{
		"1990-01-01T00:00:00": standard(-3599, "B"), "2000-04-01T02:59:58": standard(-3599, "B"), "2000-04-01T02:59:59": summer(7200, "CS"),
		"2000-04-01T03:00:00": standard(3600, "C"), "2009-12-31T23:59:59": standard(3600, "C"),
	})
	checkError(t, b, "A", timeOf("2010-01-01T00:00:00"), api.ErrForm)
	checkError(t, b, "A", lastTime, api.ErrForm)
	checkZone(t, b, b.Zones[0])
	if _, e := turns.Of(b, "R", -hour); e != api.ErrForm {
		t.Errorf("the rules increase: %d", e)
	}
}

// P15: names of neither zones nor links, of rules among them, and the empty
// book.
func TestNoZone(t *testing.T) {
	list := []string{"", "EU", "US", "Bad", "S", "LMT", "CET", "CE%T", "Europe", "europe/berlin", "Europe/Berlin ", "b", "utc", "UT", "UTCC", "zone", "-", "\x00", "\xff", strings.Repeat("UTC", 1<<14)}
	times := append([]int{firstTime, -1, 0, 1, lastTime}, beyond...)
	for _, at := range times {
		for _, name := range list {
			checkError(t, exampleBook(), name, at, api.ErrNone)
		}
		for _, b := range []api.Book{{}, {Rules: []api.Rule{}, Zones: []api.Zone{}, Links: []api.Link{}}, {Rules: exampleBook().Rules}} {
			for _, name := range append(list, "UTC", "Europe/Berlin") {
				checkError(t, b, name, at, api.ErrNone)
			}
		}
	}
}

// P15: links that lead to a cycle, beside zones and with them.
func TestCycles(t *testing.T) {
	b := exampleBook()
	alone := api.Book{Links: slices.Clone(b.Links[2:])}
	for _, at := range append([]int{firstTime, -1, 0, 1, lastTime}, beyond...) {
		for _, name := range []string{"Self", "Hen", "Egg", "Nest"} {
			checkError(t, b, name, at, api.ErrLoop)
			checkError(t, alone, name, at, api.ErrLoop)
		}
	}
}

// A flaw makes the example's book a bad one.
type flaw struct {
	change func(b *api.Book)
	want   api.Errno
}

func flaws() []flaw {
	return []flaw{
		{func(b *api.Book) { b.Rules = slices.Repeat(b.Rules, 10) }, api.ErrLarge},
		{func(b *api.Book) { b.Zones = make([]api.Zone, maxZones+1) }, api.ErrLarge},
		{func(b *api.Book) { b.Links = make([]api.Link, maxLinks+1) }, api.ErrLarge},
		{func(b *api.Book) { b.Rules[2].Name = "" }, api.ErrSyntax},
		{func(b *api.Book) { b.Rules[2].Letter = "%" }, api.ErrSyntax},
		{func(b *api.Book) { b.Rules[0].From = 1899 }, api.ErrArg},
		{func(b *api.Book) { b.Rules[0].To = math.MaxInt }, api.ErrArg},
		{func(b *api.Book) { b.Rules[5].On = api.Day{} }, api.ErrArg},
		{func(b *api.Book) { b.Rules[5].At = maxAt + 1 }, api.ErrArg},
		{func(b *api.Book) { b.Rules[5].Save = -1 }, api.ErrArg},
		{func(b *api.Book) { b.Rules[5].Save = maxSave + 1 }, api.ErrArg},
		{func(b *api.Book) { b.Zones[1].Name = "1" }, api.ErrSyntax},
		{func(b *api.Book) { b.Zones[1].Name = "Europe/Berlin" }, api.ErrTwice},
		{func(b *api.Book) { b.Zones[2].Eras = nil }, api.ErrForm},
		{func(b *api.Book) { b.Zones[2].Eras = make([]api.Era, maxEras+1) }, api.ErrLarge},
		{func(b *api.Book) { b.Zones[2].Eras[0].Offset = maxOffset + 1 }, api.ErrArg},
		{func(b *api.Book) { b.Zones[2].Eras[0].Offset = -maxOffset - 1 }, api.ErrArg},
		{func(b *api.Book) { b.Zones[2].Eras[0].Save = -1 }, api.ErrArg},
		{func(b *api.Book) { b.Zones[1].Eras[0].Save = 1 }, api.ErrForm},
		{func(b *api.Book) { b.Zones[1].Eras[0].Rules = "Nobody" }, api.ErrNone},
		{func(b *api.Book) { b.Zones[2].Eras[0].Format = "" }, api.ErrSyntax},
		{func(b *api.Book) { b.Zones[2].Eras[0].Format = "ABCDEFGHI%" }, api.ErrSyntax},
		{func(b *api.Book) { b.Zones[1].Eras[0].Format = "ABCDEFGH%" }, api.ErrLarge},
		{func(b *api.Book) { b.Zones[1].Eras[0].Format = "%" }, api.ErrForm},
		{func(b *api.Book) { b.Zones[0].Eras[0].Until = lastTime + 1 }, api.ErrArg},
		{func(b *api.Book) { b.Zones[0].Eras[1].Until = b.Zones[0].Eras[0].Until }, api.ErrForm},
		{func(b *api.Book) { b.Zones[2].Eras[0].Until = 1 }, api.ErrForm},
		{func(b *api.Book) { b.Links[5].Name = "" }, api.ErrSyntax},
		{func(b *api.Book) { b.Links[5].Name = "UTC" }, api.ErrTwice},
		{func(b *api.Book) { b.Links[5].To = "EU" }, api.ErrNone},
	}
}

// P15: a bad book yields the error of Check, whichever name and time are asked
// for.
func TestBadBooks(t *testing.T) {
	names := []string{"Europe/Berlin", "B", "America/New_York", "UTC", "Mixed", "Self", "Hen", "Nest", "Nobody", "", strings.Repeat("A", 1<<12)}
	for i, flaw := range flaws() {
		b := with(flaw.change)
		if e := book.Check(b); e != flaw.want {
			t.Fatalf("flaw %d: Check = %d, want %d", i, e, flaw.want)
		}
		for _, name := range names {
			for _, at := range append([]int{firstTime, 0, timeOf("1998-01-01T00:00:00"), lastTime}, beyond...) {
				checkError(t, b, name, at, flaw.want)
			}
		}
	}
}

// P1: books that are far from being good.
func TestHugeBooks(t *testing.T) {
	for _, b := range []api.Book{
		{Rules: make([]api.Rule, 1<<16)}, {Zones: make([]api.Zone, 1<<16)}, {Links: make([]api.Link, 1<<16)},
		{Zones: []api.Zone{{Name: "A", Eras: make([]api.Era, 1<<16)}}},
	} {
		for _, at := range []int{0, math.MinInt, math.MaxInt} {
			checkError(t, b, "A", at, api.ErrLarge)
			checkError(t, b, "", at, api.ErrLarge)
		}
	}
}
