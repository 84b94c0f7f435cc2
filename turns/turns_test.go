package turns_test

import (
	"fmt"
	"math/rand"
	"slices"
	"sort"
	"strconv"
	"testing"
	"time"

	"timeball/api"
	"timeball/book"
	"timeball/rule"
	"timeball/turns"
)

// The document's numbers, written out, so that a wrong constant is noticed.
const (
	firstYear, lastYear = 1900, 2100
	maxRules            = 40
	maxOffset           = 64800
	maxSave             = 10800
	maxAt               = 604800
	maxYears            = 1500
	hour                = 3600
	dayLength           = 86400
)

const stampForm = "2006-01-02T15:04:05"

// eu and us are rules that set clocks forward and back each year.
var (
	eu = []string{"rule EU 1996 2100 3 lastSun 1:00u 1:00 S", "rule EU 1996 2100 10 lastSun 1:00u 0:00 -"}
	us = []string{"rule US 2007 2100 3 Sun>=8 2:00 1:00 D", "rule US 2007 2100 11 Sun>=1 2:00 0:00 S"}
)

// bookOf returns a book with the rules that have these texts.
func bookOf(lines ...string) (b api.Book) {
	for _, line := range lines {
		r, e := rule.Parse(line)
		if e != api.OK {
			panic(fmt.Sprint("no rule: ", line, e))
		}
		b.Rules = append(b.Rules, r)
	}
	return b
}

// ruleOf returns the rule with a text.
func ruleOf(line string) api.Rule { return bookOf(line).Rules[0] }

// texts returns a text for each transition: its time, Save and Letter.
func texts(list []api.Turn) (all []string) {
	for _, turn := range list {
		stamp := time.Unix(int64(turn.At), 0).UTC().Format(stampForm)
		all = append(all, stamp+" "+strconv.Itoa(turn.Save)+" "+turn.Letter)
	}
	return all
}

// show returns the beginning of a value.
func show(x any) string { return fmt.Sprintf("%.600s", fmt.Sprint(x)) }

// checkTexts checks the transitions of rules against their texts.
func checkTexts(t *testing.T, b api.Book, name string, offset int, want ...string) {
	t.Helper()
	if list, e := turns.Of(b, name, offset); !slices.Equal(texts(list), want) || e != api.OK {
		t.Errorf("Of(%s, %q, %d) = %s, %d, want %s", show(b), name, offset, show(texts(list)), e, show(want))
	}
}

// checkError checks that there is an error, and nothing beside it.
func checkError(t *testing.T, b api.Book, name string, offset int, want api.Errno) {
	t.Helper()
	if list, e := turns.Of(b, name, offset); len(list) != 0 || e != want {
		t.Errorf("Of(%s, %.40q, %d) = %s, %d, want an empty list and error %d", show(b), name, offset, show(texts(list)), e, want)
	}
}

// nominal returns the nominal time of a rule in a year, by the library's
// calendar.
func nominal(r api.Rule, year int) int {
	first, step := time.Date(year, time.Month(r.Month), r.On.N, 0, 0, 0, 0, time.UTC), 1
	switch r.On.Kind {
	case 1: // DNumber
		step = 0
	case 2: // DLast
		first, step = time.Date(year, time.Month(r.Month+1), 0, 0, 0, 0, 0, time.UTC), -1
	case 4: // DTill
		step = -1
	}
	for step != 0 && first.Weekday() != time.Weekday(r.On.Weekday) {
		first = first.AddDate(0, 0, step)
	}
	return int(first.Unix()) + r.At
}

// expected returns what P14 demands of a good book, told in another way than
// the package tells it: the rules are collected by nominal time, and each clock
// has the number of seconds it is ahead. It returns nil if the times do not
// increase.
func expected(b api.Book, name string, offset int) (list []api.Turn) {
	at := map[int][]api.Rule{}
	for _, r := range b.Rules {
		for year := r.From; year <= r.To && r.Name == name; year++ {
			n := nominal(r, year)
			at[n] = append(at[n], r)
		}
	}
	var times []int
	for n := range at {
		times = append(times, n)
	}
	sort.Ints(times)
	save := 0
	for _, n := range times {
		for _, r := range at[n] {
			ahead := []int{offset + save, offset, 0}[r.By]
			list = append(list, api.Turn{At: n - ahead, Save: r.Save, Letter: r.Letter})
			save = r.Save
		}
	}
	for i := 1; i < len(list); i++ {
		if list[i].At <= list[i-1].At {
			return nil
		}
	}
	return list
}

// checkRules checks the transitions of a book's rules against P14, and returns
// whether there are any.
func checkRules(t *testing.T, b api.Book, name string, offset int) bool {
	t.Helper()
	if e := book.Check(b); e != api.OK {
		t.Fatalf("%s is no book: error %d", show(b), e)
	}
	want := expected(b, name, offset)
	if want == nil {
		checkError(t, b, name, offset, api.ErrForm)
		return false
	}
	if list, e := turns.Of(b, name, offset); !slices.Equal(list, want) || e != api.OK {
		t.Errorf("Of(%s, %q, %d) = %s, %d, want %s", show(b), name, offset, show(texts(list)), e, show(texts(want)))
	}
	return true
}

// P14: one rule for one year, by each of the clocks.
func TestOneTransition(t *testing.T) {
	for _, c := range []struct {
		line   string
		offset int
		want   string
	}{
		{"rule EU 1996 1996 10 lastSun 1:00u 0:00 -", 0, "1996-10-27T01:00:00 0 -"},
		{"rule EU 1996 1996 10 lastSun 1:00u 0:00 -", 3600, "1996-10-27T01:00:00 0 -"},
		{"rule EU 1996 1996 10 lastSun 1:00s 0:00 -", 3600, "1996-10-27T00:00:00 0 -"},
		{"rule EU 1996 1996 10 lastSun 1:00 0:00 -", 3600, "1996-10-27T00:00:00 0 -"},
		{"rule EU 1996 1996 10 lastSun 1:00 1:00 S", -3600, "1996-10-27T02:00:00 3600 S"},
		{"rule US 2026 2026 3 Sun>=8 2:00 1:00 D", -18000, "2026-03-08T07:00:00 3600 D"},
		{"rule AQ 2026 2026 4 5 2:00s 3:00 +1-aZ09b", 36000, "2026-04-04T16:00:00 10800 +1-aZ09b"},
		{"rule x 1970 1970 1 1 0:00 0:00:01 x", 0, "1970-01-01T00:00:00 1 x"},
		{"rule x 1970 1970 1 1 0:00 2:59:59 x", 1, "1969-12-31T23:59:59 10799 x"},
	} {
		checkTexts(t, bookOf(c.line), ruleOf(c.line).Name, c.offset, c.want)
	}
	list, e := turns.Of(bookOf("rule x 1970 1970 1 2 0:00:03u 1:00 S"), "x", 5)
	if want := []api.Turn{{At: 86403, Save: 3600, Letter: "S"}}; !slices.Equal(list, want) || e != api.OK {
		t.Errorf("Of = %v, %d, want %v", list, e, want)
	}
}

// P14: one rule for several years, for all of them, and for each single one.
func TestManyYears(t *testing.T) {
	checkTexts(t, bookOf("rule A 1996 2004 10 lastSun 1:00u 0:00 -"), "A", 7200,
		"1996-10-27T01:00:00 0 -", "1997-10-26T01:00:00 0 -", "1998-10-25T01:00:00 0 -", "1999-10-31T01:00:00 0 -", "2000-10-29T01:00:00 0 -",
		"2001-10-28T01:00:00 0 -", "2002-10-27T01:00:00 0 -", "2003-10-26T01:00:00 0 -", "2004-10-31T01:00:00 0 -")
	for _, rest := range []string{"1 1 0:00 1:00 S", "2 lastThu 24:00s 0:00 -", "7 Mon<=1 -1:00u 3:00 M", "12 31 0:00 0:30 -"} {
		for year := firstYear; year <= lastYear; year++ {
			y := strconv.Itoa(year)
			for _, years := range []string{y + " " + y, "1900 " + y, y + " 2100"} {
				b := bookOf("rule A " + years + " " + rest)
				checkRules(t, b, "A", -hour)
				if list, _ := turns.Of(b, "A", -hour); len(list) != b.Rules[0].To-b.Rules[0].From+1 {
					t.Errorf("%s %s: %d transitions", years, rest, len(list))
				}
			}
		}
	}
}

// P14: the first and the last year, the days beside them included.
func TestFirstAndLastYear(t *testing.T) {
	for _, c := range []struct{ rest, first, last string }{
		{"1 1 0:00u 0:00 -", "1900-01-01T00:00:00", "2100-01-01T00:00:00"},
		{"12 31 24:00u 0:00 -", "1901-01-01T00:00:00", "2101-01-01T00:00:00"},
		{"1 Sun<=1 -168:00u 0:00 -", "1899-12-24T00:00:00", "2099-12-20T00:00:00"},
		{"12 Mon>=31 168:00u 0:00 -", "1901-01-07T00:00:00", "2101-01-10T00:00:00"},
		{"2 lastSun 0:00u 0:00 -", "1900-02-25T00:00:00", "2100-02-28T00:00:00"},
		{"3 Thu<=1 12:34:56u 0:00 -", "1900-03-01T12:34:56", "2100-02-25T12:34:56"},
	} {
		checkTexts(t, bookOf("rule A 1900 1900 "+c.rest), "A", 0, c.first+" 0 -")
		checkTexts(t, bookOf("rule A 2100 2100 "+c.rest), "A", 0, c.last+" 0 -")
		list, e := turns.Of(bookOf("rule A 1900 2100 "+c.rest), "A", 0)
		if all := texts(list); len(all) != 201 || all[0] != c.first+" 0 -" || all[200] != c.last+" 0 -" || e != api.OK {
			t.Errorf("%s: %s, %d", c.rest, show(all), e)
		}
	}
}

// P14: clocks set forward and back each year, in whichever order the rules are
// listed; the saving of a wall clock is that of the preceding transition.
func TestForwardAndBack(t *testing.T) {
	for _, c := range []struct {
		forward, back string
		offset        int
		want          []string
	}{
		{"rule A 1996 1998 3 lastSun 1:00u 1:00 S", "rule A 1996 1998 10 lastSun 1:00u 0:00 -", 3600, []string{
			"1996-03-31T01:00:00 3600 S", "1996-10-27T01:00:00 0 -", "1997-03-30T01:00:00 3600 S",
			"1997-10-26T01:00:00 0 -", "1998-03-29T01:00:00 3600 S", "1998-10-25T01:00:00 0 -"}},
		{"rule A 2007 2009 3 Sun>=8 2:00 1:00 D", "rule A 2007 2009 11 Sun>=1 2:00 0:00 S", -18000, []string{
			"2007-03-11T07:00:00 3600 D", "2007-11-04T06:00:00 0 S", "2008-03-09T07:00:00 3600 D",
			"2008-11-02T06:00:00 0 S", "2009-03-08T07:00:00 3600 D", "2009-11-01T06:00:00 0 S"}},
		{"rule A 2008 2009 10 Sun>=1 2:00s 1:00 D", "rule A 2008 2009 4 Sun>=1 2:00s 0:00 S", 36000, []string{
			"2008-04-05T16:00:00 0 S", "2008-10-04T16:00:00 3600 D", "2009-04-04T16:00:00 0 S", "2009-10-03T16:00:00 3600 D"}},
		{"rule A 2008 2009 10 Sun>=1 2:00 0:30 D", "rule A 2008 2009 4 Sun>=1 2:00 0:00 S", 37800, []string{
			"2008-04-05T15:30:00 0 S", "2008-10-04T15:30:00 1800 D", "2009-04-04T15:00:00 0 S", "2009-10-03T15:30:00 1800 D"}},
		{"rule A 2000 2001 5 1 0:00 3:00 F", "rule A 2000 2002 9 30 24:00 0:00 -", -64800, []string{
			"2000-05-01T18:00:00 10800 F", "2000-10-01T15:00:00 0 -", "2001-05-01T18:00:00 10800 F", "2001-10-01T15:00:00 0 -",
			"2002-10-01T18:00:00 0 -"}},
	} {
		checkTexts(t, bookOf(c.forward, c.back), "A", c.offset, c.want...)
		checkTexts(t, bookOf(c.back, c.forward), "A", c.offset, c.want...)
	}
}

// P14: rules of several names in one book, listed in any order: only those with
// the name count.
func TestSeveralNames(t *testing.T) {
	other := []string{
		"rule E 1990 2000 3 1 0:00u 0:30 E", "rule eu 1990 2000 3 lastSun 1:00u 2:00 e", "rule EU2 1990 2000 10 lastSun 1:00u 2:00 2",
		"rule EUR/EU 1990 2000 10 lastSun 0:00u 2:00 R", "rule Eu 2000 2010 12 31 0:00 1:00 u",
	}
	var lines []string
	lines = append(append(append(lines, eu...), us...), other...)
	all := []string{"EU", "US", "E", "eu", "EU2", "EUR/EU", "Eu"}
	random := rand.New(rand.NewSource(7))
	for range 200 {
		random.Shuffle(len(lines), func(i, k int) { lines[i], lines[k] = lines[k], lines[i] })
		b := bookOf(lines...)
		for _, name := range all {
			if !checkRules(t, b, name, -18000) {
				t.Errorf("%s: no transitions", name)
			}
		}
		list, e := turns.Of(b, "EU", hour)
		if want, _ := turns.Of(bookOf(eu...), "EU", hour); !slices.Equal(list, want) || len(want) != 210 || e != api.OK {
			t.Errorf("%q: %s, %d", lines, show(texts(list)), e)
		}
	}
	// Together, the rules would not be in order.
	b := bookOf("rule A 2000 2000 3 1 0:00 1:00 S", "rule B 2000 2000 3 1 0:00 1:00 S", "rule B 2000 2000 3 2 0:00 0:00 -", "rule A 2000 2000 3 1 1:00:01 0:00 -")
	checkTexts(t, b, "A", 0, "2000-03-01T00:00:00 3600 S", "2000-03-01T00:00:01 0 -")
	checkTexts(t, b, "B", 0, "2000-03-01T00:00:00 3600 S", "2000-03-01T23:00:00 0 -")
}

// P14: neither zones nor links count: not their names, nor the offsets, the
// savings and the times of eras.
func TestZonesDoNotCount(t *testing.T) {
	b := bookOf(append(eu, us...)...)
	b.Zones = []api.Zone{
		{Name: "EU", Eras: []api.Era{{Offset: 7200, Rules: "US", Format: "A%", Until: 1000000000}, {Offset: -3600, Save: 1800, Format: "B"}}},
		{Name: "Z", Eras: []api.Era{{Offset: 60, Rules: "EU", Format: "C/D", Until: 1}, {Offset: 1, Rules: "EU", Format: "E"}}},
	}
	b.Links = []api.Link{{Name: "US", To: "EU"}, {Name: "L", To: "Z"}}
	for _, name := range []string{"EU", "US"} {
		for _, offset := range []int{-maxOffset, 0, 7200} {
			checkRules(t, b, name, offset)
			list, _ := turns.Of(b, name, offset)
			if want, _ := turns.Of(api.Book{Rules: b.Rules}, name, offset); !slices.Equal(list, want) || len(want) == 0 {
				t.Errorf("%s, %d: %s, want %s", name, offset, show(texts(list)), show(texts(want)))
			}
		}
	}
	for _, name := range []string{"Z", "L"} {
		checkError(t, b, name, 0, api.ErrNone)
	}
}

// P14: the Letter is that of the rule, '-' included, and a Save that is that of
// the preceding transition, or a Letter, yields a transition all the same.
func TestLettersAndEqualSaves(t *testing.T) {
	checkTexts(t, bookOf("rule A 2000 2001 3 1 0:00u 1:00 S", "rule A 2000 2001 6 1 0:00u 1:00 S", "rule A 2000 2000 9 1 0:00u 1:00 -", "rule A 2000 2001 10 1 0:00u 0:00 -",
		"rule A 2001 2001 1 1 0:00u 0:00 -", "rule A 2001 2001 2 1 0:00u 0:00 --"), "A", 0,
		"2000-03-01T00:00:00 3600 S", "2000-06-01T00:00:00 3600 S", "2000-09-01T00:00:00 3600 -", "2000-10-01T00:00:00 0 -",
		"2001-01-01T00:00:00 0 -", "2001-02-01T00:00:00 0 --", "2001-03-01T00:00:00 3600 S", "2001-06-01T00:00:00 3600 S", "2001-10-01T00:00:00 0 -")
	checkTexts(t, bookOf("rule A 2000 2000 3 1 0:00 1:00 S", "rule A 2000 2000 6 1 0:00 1:00 S", "rule A 2000 2000 9 1 0:00 1:00 T", "rule A 2000 2000 10 1 0:00 0:00 -"), "A", 0,
		"2000-03-01T00:00:00 3600 S", "2000-05-31T23:00:00 3600 S", "2000-08-31T23:00:00 3600 T", "2000-09-30T23:00:00 0 -")
	for _, letter := range []string{"-", "+", "S", "s", "0", "ABCDEFGH", "--------"} {
		b := bookOf("rule A 2000 2000 3 1 0:00 1:00 " + letter)
		checkTexts(t, b, "A", 0, "2000-03-01T00:00:00 3600 "+letter)
	}
}
