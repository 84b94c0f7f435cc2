package turns_test

import (
	"math"
	"slices"
	"strconv"
	"strings"
	"testing"

	"timeball/api"
	"timeball/book"
	"timeball/turns"
)

// example is a text with everything that a book may contain.
const example = "rule EU 1981 2100 3 lastSun 1:00u 1:00 S\n" +
	"rule US 2007 2100 3 Sun>=8 2:00 1:00 D\n" +
	"rule EU 1996 2100 10 lastSun 1:00u 0:00 -\n" +
	"rule US 2007 2100 11 Sun>=1 2:00 0:00 S\n" +
	"rule AN 2008 2100 4 Sun>=1 2:00s 0:00 LongText\n" +
	"rule Bad 2000 2000 4 1 2:00 1:00 S\n" +
	"rule Bad 2000 2000 4 1 3:00 0:00 -\n" +
	"zone Europe/Berlin\n" +
	"era 0:53:28 -0:00 LMT 1893-03-31T23:06:32\n" +
	"era 1:00 EU CE%T\n" +
	"zone America/New_York\n" +
	"era -5:00 US E%T\n" +
	"link Berlin Europe/Berlin\n" +
	"link Loop Loop"

// exampleBook returns the book with this text.
func exampleBook() api.Book {
	b, _, e := book.Parse(example)
	if e != api.OK {
		panic("the example is no book: error " + strconv.Itoa(int(e)))
	}
	return b
}

// with returns the example's book after a change.
func with(change func(b *api.Book)) api.Book {
	b := exampleBook()
	change(&b)
	return b
}

// yearly returns a book with a number of rules for a number of years in total.
// No two of them have the same day, so that their times increase.
func yearly(name string, years, rules int) (b api.Book) {
	for i := range rules {
		share := years / (rules - i)
		years -= share
		r := ruleOf("rule A 1900 1900 1 1 0:00 0:00 -")
		r.Name, r.To, r.Month, r.On.N = name, 1900+share-1, 1+i%12, 1+i/12*7
		b.Rules = append(b.Rules, r)
	}
	return b
}

// P14: exactly 1500 years, and one more, whether few rules have them or many.
func TestMostYears(t *testing.T) {
	for rules := 8; rules <= maxRules; rules++ {
		b := yearly("A", maxYears, rules)
		if !checkRules(t, b, "A", hour) {
			t.Errorf("%d rules: no transitions", rules)
		}
		if list, e := turns.Of(b, "A", hour); len(list) != maxYears || e != api.OK {
			t.Errorf("%d rules: %d transitions, error %d", rules, len(list), e)
		}
		for i := range b.Rules {
			more := api.Book{Rules: slices.Clone(b.Rules)}
			if more.Rules[i].To == lastYear {
				continue
			}
			more.Rules[i].To++
			checkError(t, more, "A", hour, api.ErrLarge)
		}
		if list, e := turns.Of(yearly("A", maxYears-1, rules), "A", hour); len(list) != maxYears-1 || e != api.OK {
			t.Errorf("%d rules: %d transitions, error %d", rules, len(list), e)
		}
		checkError(t, yearly("A", maxYears+1, rules), "A", hour, api.ErrLarge)
	}
	for _, years := range []int{1502, 1600, 2000, 3000, 8040} {
		checkError(t, yearly("A", years, maxRules), "A", 0, api.ErrLarge)
	}
}

// P14: only the years of the rules with the name count.
func TestYearsOfOtherNames(t *testing.T) {
	for _, c := range []struct{ a, b int }{{1500, 1500}, {1500, 1501}, {1501, 1500}, {1501, 1501}, {1500, 4000}, {100, 1501}, {10, 3000}} {
		a, b := yearly("A", c.a, 10), yearly("a", c.b, 30)
		for _, rules := range [][]api.Rule{slices.Concat(a.Rules, b.Rules), slices.Concat(b.Rules, a.Rules), slices.Concat(b.Rules[:15], a.Rules, b.Rules[15:])} {
			all := api.Book{Rules: rules}
			for _, asked := range []struct {
				name  string
				years int
			}{{"A", c.a}, {"a", c.b}} {
				if asked.years > maxYears {
					checkError(t, all, asked.name, 0, api.ErrLarge)
				} else if list, e := turns.Of(all, asked.name, 0); len(list) != asked.years || e != api.OK {
					t.Errorf("%v, %q: %d transitions, error %d", c, asked.name, len(list), e)
				}
			}
			checkError(t, all, "B", 0, api.ErrNone)
		}
	}
}

// P14: too many years with transitions that are not increasing, and as many as
// there may be.
func TestManyYearsThatDoNotIncrease(t *testing.T) {
	line := "rule A 1900 2100 5 1 0:00 0:00 -"
	same := bookOf(slices.Repeat([]string{line}, 8)...)
	checkError(t, same, "A", 0, api.ErrLarge)
	same.Rules[7].To = 1900 + 93 - 1
	checkError(t, same, "A", 0, api.ErrForm)
	same.Rules[7].To++
	checkError(t, same, "A", 0, api.ErrLarge)
	// The very last two transitions are at the same time.
	b := yearly("A", maxYears, 20)
	last := slices.MaxFunc(b.Rules, func(p, q api.Rule) int { return nominal(p, p.To) - nominal(q, q.To) })
	last.From = last.To
	b.Rules[0].To--
	b.Rules = append(b.Rules, last)
	checkError(t, b, "A", 0, api.ErrForm)
	b.Rules[0].To++
	checkError(t, b, "A", 0, api.ErrLarge)
}

// P14: offsets at the bounds and beyond, for good rules, for those that do not
// increase, for too many years, and for no rules.
func TestOffsets(t *testing.T) {
	b := exampleBook()
	for _, r := range yearly("Many", maxYears+1, 8).Rules {
		b.Rules = append(b.Rules, r)
	}
	for _, offset := range []int{-64800, -64799, -43200, -1, 0, 1, 50400, 64799, 64800} {
		for _, name := range []string{"EU", "US", "AN"} {
			if !checkRules(t, b, name, offset) {
				t.Errorf("%s, %d: no transitions", name, offset)
			}
		}
		checkError(t, b, "Bad", offset, api.ErrForm)
		checkError(t, b, "Many", offset, api.ErrLarge)
		checkError(t, b, "Nobody", offset, api.ErrNone)
	}
	for _, offset := range []int{-64801, 64801, -64802, 65000, -86400, 86400, -1 << 32, 1 << 32, math.MinInt, math.MaxInt, math.MinInt32, math.MaxInt32} {
		for _, name := range []string{"EU", "US", "AN", "Bad", "Many", "Nobody", "", "Berlin", strings.Repeat("A", 1<<16)} {
			checkError(t, b, name, offset, api.ErrArg)
		}
	}
}

// P14: names of no rule: those of zones and links, the empty one, and names
// that are much like those of rules.
func TestNoRules(t *testing.T) {
	names := []string{
		"", "Europe/Berlin", "America/New_York", "Berlin", "Loop", "E", "EUR", "eu", "Eu", "eU", "U", "EU ", " EU", "EU\x00", "EU\n", "UE", "EUEU", "US/EU",
		"rule", "zone", "S", "-", "CE%T", "LongText", "Bad1", "\xff", "rule EU 1981 2100 3 lastSun 1:00u 1:00 S", strings.Repeat("EU", 1<<14),
	}
	for _, name := range names {
		checkError(t, exampleBook(), name, hour, api.ErrNone)
		for _, b := range []api.Book{{}, {Rules: []api.Rule{}, Zones: []api.Zone{}, Links: []api.Link{}}, bookOf(eu...)} {
			checkError(t, b, name, hour, api.ErrNone)
		}
	}
	for c := range 256 {
		for _, name := range []string{"E" + string([]byte{byte(c)}), string([]byte{byte(c)}) + "U", "EU" + string([]byte{byte(c)})} {
			if name != "EU" {
				checkError(t, bookOf(eu...), name, 0, api.ErrNone)
			}
		}
	}
}

// P14: the empty book, with any name and offset.
func TestEmptyBook(t *testing.T) {
	for _, b := range []api.Book{{}, {Rules: []api.Rule{}}, {Zones: []api.Zone{{Name: "A", Eras: []api.Era{{Format: "A"}}}}}} {
		for _, name := range []string{"", "A", "EU"} {
			checkError(t, b, name, 0, api.ErrNone)
			checkError(t, b, name, -maxOffset, api.ErrNone)
			checkError(t, b, name, maxOffset, api.ErrNone)
			checkError(t, b, name, -maxOffset-1, api.ErrArg)
			checkError(t, b, name, maxOffset+1, api.ErrArg)
		}
	}
}

// A flaw makes the example's book a bad one.
type flaw struct {
	change func(b *api.Book)
	want   api.Errno
}

func flaws() []flaw {
	return []flaw{
		{func(b *api.Book) { b.Rules = slices.Repeat(b.Rules, maxRules) }, api.ErrLarge},
		{func(b *api.Book) { b.Zones = make([]api.Zone, 21) }, api.ErrLarge},
		{func(b *api.Book) { b.Links = make([]api.Link, 21) }, api.ErrLarge},
		{func(b *api.Book) { b.Rules[4].Name = "" }, api.ErrSyntax},
		{func(b *api.Book) { b.Rules[4].Letter = "" }, api.ErrSyntax},
		{func(b *api.Book) { b.Rules[0].Letter = "%" }, api.ErrSyntax},
		{func(b *api.Book) { b.Rules[0].From = firstYear - 1 }, api.ErrArg},
		{func(b *api.Book) { b.Rules[0].To = lastYear + 1 }, api.ErrArg},
		{func(b *api.Book) { b.Rules[0].To = math.MaxInt }, api.ErrArg},
		{func(b *api.Book) { b.Rules[4].From, b.Rules[4].To = 2001, 2000 }, api.ErrArg},
		{func(b *api.Book) { b.Rules[4].Month = 13 }, api.ErrArg},
		{func(b *api.Book) { b.Rules[4].Month, b.Rules[4].On = 2, api.Day{Kind: 1, N: 29} }, api.ErrArg},
		{func(b *api.Book) { b.Rules[0].On = api.Day{} }, api.ErrArg},
		{func(b *api.Book) { b.Rules[0].At = maxAt + 1 }, api.ErrArg},
		{func(b *api.Book) { b.Rules[0].At = math.MinInt }, api.ErrArg},
		{func(b *api.Book) { b.Rules[0].By = 3 }, api.ErrArg},
		{func(b *api.Book) { b.Rules[0].By = -1 }, api.ErrArg},
		{func(b *api.Book) { b.Rules[0].Save = -1 }, api.ErrArg},
		{func(b *api.Book) { b.Rules[4].Save = maxSave + 1 }, api.ErrArg},
		{func(b *api.Book) { b.Zones[1].Name = "1" }, api.ErrSyntax},
		{func(b *api.Book) { b.Zones[1].Name = "Europe/Berlin" }, api.ErrTwice},
		{func(b *api.Book) { b.Zones[1].Eras = nil }, api.ErrForm},
		{func(b *api.Book) { b.Zones[1].Eras = make([]api.Era, 701) }, api.ErrLarge},
		{func(b *api.Book) { b.Zones[1].Eras[0].Offset = -maxOffset - 1 }, api.ErrArg},
		{func(b *api.Book) { b.Zones[1].Eras[0].Save = 1 }, api.ErrForm},
		{func(b *api.Book) { b.Zones[1].Eras[0].Rules = "Nobody" }, api.ErrNone},
		{func(b *api.Book) { b.Zones[1].Eras[0].Format = "" }, api.ErrSyntax},
		{func(b *api.Book) { b.Zones[1].Eras[0].Rules = "AN" }, api.ErrLarge},
		{func(b *api.Book) { b.Zones[1].Eras[0].Format = "%" }, api.ErrForm},
		{func(b *api.Book) { b.Zones[0].Eras[0].Until = math.MaxInt }, api.ErrArg},
		{func(b *api.Book) { b.Zones[1].Eras[0].Until = 1 }, api.ErrForm},
		{func(b *api.Book) { b.Links[1].Name = "" }, api.ErrSyntax},
		{func(b *api.Book) { b.Links[1].Name = "Berlin" }, api.ErrTwice},
		{func(b *api.Book) { b.Links[1].To = "EU" }, api.ErrNone},
	}
}

// P14: a bad book yields the error of Check, whichever name and offset are asked
// for: also with rules that do not increase, or with too many years.
func TestBadBooks(t *testing.T) {
	for i, flaw := range flaws() {
		b := with(flaw.change)
		books := []api.Book{b}
		if len(b.Rules) < maxRules {
			many := yearly("Many", maxYears+1, 8)
			books = append(books, api.Book{Rules: slices.Concat(many.Rules, b.Rules), Zones: b.Zones, Links: b.Links})
		}
		for _, b := range books {
			if e := book.Check(b); e != flaw.want {
				t.Fatalf("flaw %d: Check = %d, want %d", i, e, flaw.want)
			}
			for _, name := range []string{"EU", "US", "AN", "Bad", "Many", "", "Nobody", "Europe/Berlin", "Berlin", strings.Repeat("A", 1<<16)} {
				for _, offset := range []int{0, -maxOffset, maxOffset, -maxOffset - 1, maxOffset + 1, math.MinInt, math.MaxInt} {
					checkError(t, b, name, offset, flaw.want)
				}
			}
		}
	}
}

// P14: a book that is good in its rules alone is good enough.
func TestRulesAlone(t *testing.T) {
	for _, change := range []func(b *api.Book){
		func(b *api.Book) { b.Zones, b.Links = nil, nil },
		func(b *api.Book) { b.Links = nil },
		func(b *api.Book) { b.Links = []api.Link{{Name: "EU", To: "US"}, {Name: "US", To: "EU"}} },
	} {
		b := with(change)
		for _, name := range []string{"EU", "US", "AN"} {
			if !checkRules(t, b, name, hour) {
				t.Errorf("%s: no transitions", show(b))
			}
		}
		checkError(t, b, "Bad", hour, api.ErrForm)
	}
}

// P1: books that are far from being good.
func TestHugeBooks(t *testing.T) {
	for _, b := range []api.Book{
		{Rules: make([]api.Rule, 1<<16)}, {Zones: make([]api.Zone, 1<<16)}, {Links: make([]api.Link, 1<<16)},
		{Rules: slices.Repeat(bookOf(eu...).Rules, 1<<12)},
	} {
		for _, offset := range []int{0, math.MinInt, math.MaxInt} {
			checkError(t, b, "EU", offset, api.ErrLarge)
			checkError(t, b, "", offset, api.ErrLarge)
		}
	}
}
