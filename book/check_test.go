package book_test

import (
	"slices"
	"strconv"
	"strings"
	"testing"

	"timeball/api"
	"timeball/book"
)

// manyRules returns n good rules.
func manyRules(n int) (list []api.Rule) {
	for i := range n {
		r := exampleBook().Rules[i%4]
		r.From = 2050 + i
		list = append(list, r)
	}
	return list
}

// manyZones returns n good zones with that many eras.
func manyZones(n, eras int) (list []api.Zone) {
	for i := range n {
		list = append(list, api.Zone{Name: "Z" + strconv.Itoa(i), Eras: manyEras(eras)})
	}
	return list
}

// manyEras returns n good eras.
func manyEras(n int) (list []api.Era) {
	for i := range n {
		list = append(list, api.Era{Offset: i - n/2, Save: i % 3600, Format: "A/B" + strconv.Itoa(i), Until: 1000*i - 5000})
	}
	if n > 0 {
		list[n-1].Until = 0
	}
	return list
}

// manyLinks returns n good links, each one to the next one.
func manyLinks(n int) (list []api.Link) {
	for i := range n {
		list = append(list, api.Link{Name: "L" + strconv.Itoa(i), To: "L" + strconv.Itoa(min(i+1, n-1))})
	}
	return list
}

// loops returns n good links, each one to itself.
func loops(n int) []api.Link {
	list := manyLinks(n)
	for i := range list {
		list[i].To = list[i].Name
	}
	return list
}

// P11: each limit reached and passed by one, alone and all of them together.
func TestLimits(t *testing.T) {
	for _, n := range []int{1, maxRules - 1, maxRules} {
		checkGood(t, api.Book{Rules: manyRules(n)})
		checkGood(t, with(func(b *api.Book) { b.Rules = manyRules(max(n, 4)) }))
	}
	for _, n := range []int{maxRules + 1, 10 * maxRules} {
		checkBad(t, api.Book{Rules: manyRules(n)}, api.ErrLarge)
	}
	for _, n := range []int{1, maxZones - 1, maxZones} {
		checkGood(t, api.Book{Zones: manyZones(n, 1)})
		checkGood(t, api.Book{Zones: manyZones(n, 2)})
	}
	for _, n := range []int{maxZones + 1, 10 * maxZones} {
		checkBad(t, api.Book{Zones: manyZones(n, 1)}, api.ErrLarge)
	}
	for _, n := range []int{1, maxLinks - 1, maxLinks} {
		checkGood(t, api.Book{Links: manyLinks(n)})
		checkGood(t, api.Book{Zones: manyZones(n, 1), Links: manyLinks(n)})
	}
	for _, n := range []int{maxLinks + 1, 10 * maxLinks} {
		checkBad(t, api.Book{Links: manyLinks(n)}, api.ErrLarge)
	}
	for _, n := range []int{1, 2, 3, maxEras - 1, maxEras} {
		checkGood(t, api.Book{Zones: manyZones(1, n)})
		checkGood(t, with(func(b *api.Book) { b.Zones[1].Eras = manyEras(n) }))
	}
	for _, n := range []int{maxEras + 1, 10 * maxEras} {
		checkBad(t, api.Book{Zones: manyZones(1, n)}, api.ErrLarge)
		checkBad(t, with(func(b *api.Book) { b.Zones[2].Eras = manyEras(n) }), api.ErrLarge)
	}
	full := api.Book{Rules: manyRules(maxRules), Zones: manyZones(maxZones, maxEras), Links: manyLinks(maxLinks)}
	checkGood(t, full)
	full.Zones[maxZones-1].Eras = manyEras(maxEras + 1)
	checkBad(t, full, api.ErrLarge)
}

// P11: texts of books that pass a limit can be parsed; it is Check that
// rejects them.
func TestTextsBeyondLimits(t *testing.T) {
	for _, b := range []api.Book{
		{Rules: manyRules(maxRules + 1)}, {Zones: manyZones(maxZones+1, 1)}, {Links: manyLinks(maxLinks + 1)}, {Zones: manyZones(1, maxEras+1)},
	} {
		checkNoBook(t, wantText(b), 0, api.ErrLarge)
	}
}

// P11: both ends of each number and one beyond.
func TestEndsOfNumbers(t *testing.T) {
	for _, c := range []struct {
		set         func(b *api.Book, n int)
		least, most int
	}{
		{func(b *api.Book, n int) { b.Zones[0].Eras[0].Offset = n }, -64800, 64800},
		{func(b *api.Book, n int) { b.Zones[0].Eras[1].Offset = n }, -64800, 64800},
		{func(b *api.Book, n int) { b.Zones[1].Eras[1].Offset = n }, -64800, 64800},
		{func(b *api.Book, n int) { b.Zones[1].Eras[2].Offset = n }, -64800, 64800},
		{func(b *api.Book, n int) { b.Zones[2].Eras[0].Offset = n }, -64800, 64800},
		{func(b *api.Book, n int) { b.Zones[0].Eras[0].Save = n }, 0, 10800},
		{func(b *api.Book, n int) { b.Zones[0].Eras[1].Save = n }, 0, 10800},
		{func(b *api.Book, n int) { b.Zones[2].Eras[0].Save = n }, 0, 10800},
		{func(b *api.Book, n int) { b.Zones[0].Eras[0].Until = n }, firstTime, 315532799},
		{func(b *api.Book, n int) { b.Zones[0].Eras[1].Until = n }, -2422054407, lastTime},
		{func(b *api.Book, n int) { b.Zones[1].Eras[0].Until = n }, firstTime, 1893455999},
		{func(b *api.Book, n int) { b.Zones[1].Eras[1].Until = n }, -2717650799, lastTime},
	} {
		to := func(n int) api.Book { return with(func(b *api.Book) { c.set(b, n) }) }
		for _, n := range []int{c.least, c.least + 1, c.most - 1, c.most} {
			checkGood(t, to(n))
		}
		for _, n := range append(extremes(), c.least-1, c.most+1) {
			if n < c.least || n > c.most {
				checkRejected(t, to(n))
			}
		}
	}
	checkGood(t, with(func(b *api.Book) { b.Zones[0].Eras[0].Until, b.Zones[0].Eras[1].Until = firstTime, lastTime }))
	checkGood(t, with(func(b *api.Book) { b.Zones[0].Eras[0].Until = 0 }))
	checkGood(t, with(func(b *api.Book) { b.Zones[0].Eras[0].Until, b.Zones[0].Eras[1].Until = -1, 0 }))
}

// checkRejected checks that there is an error, whichever.
func checkRejected(t *testing.T, b api.Book) {
	t.Helper()
	e := book.Check(b)
	if e == api.OK {
		t.Errorf("Check(%s) = OK, want an error", show(b))
	}
	checkBad(t, b, e)
}

// P11: which error a number causes.
func TestErrorsOfNumbers(t *testing.T) {
	for _, n := range append(extremes(), -maxOffset-1, maxOffset+1, -maxSpan, maxSpan) {
		checkBad(t, with(func(b *api.Book) { b.Zones[0].Eras[0].Offset = n }), api.ErrArg)
		checkBad(t, with(func(b *api.Book) { b.Zones[0].Eras[2].Offset = n }), api.ErrArg)
	}
	for _, n := range append(extremes(), -maxSave, -1, maxSave+1, maxSpan) {
		checkBad(t, with(func(b *api.Book) { b.Zones[0].Eras[0].Save = n }), api.ErrArg)
		checkBad(t, with(func(b *api.Book) { b.Zones[0].Eras[2].Save = n }), api.ErrArg)
	}
	for _, n := range []int{1, 3600, maxSave} {
		checkBad(t, with(func(b *api.Book) { b.Zones[0].Eras[2].Save = n }), api.ErrForm)
		checkBad(t, with(func(b *api.Book) { b.Zones[1].Eras[1].Save = n }), api.ErrForm)
	}
	// Some of these times are in [-2^40, 2^40], but none has a timestamp.
	beyond := []int{firstTime - 1, firstTime - 86400, lastTime + 1, lastTime + 86400, -maxTime, -maxTime - 1, maxTime, maxTime + 1, 1 << 62, -1 << 62}
	for _, n := range beyond {
		checkBad(t, with(func(b *api.Book) { b.Zones[0].Eras[0].Until = n }), api.ErrArg)
		checkBad(t, with(func(b *api.Book) { b.Zones[0].Eras[1].Until = n }), api.ErrArg)
		checkBad(t, with(func(b *api.Book) { b.Zones[1].Eras[1].Until = n }), api.ErrArg)
	}
	for _, n := range append(append(extremes(), beyond...), 1, -1, firstTime, lastTime, 315532801) {
		checkBad(t, with(func(b *api.Book) { b.Zones[0].Eras[2].Until = n }), api.ErrForm)
		checkBad(t, with(func(b *api.Book) { b.Zones[2].Eras[0].Until = n }), api.ErrForm)
	}
}

// P11: times Until that are equal or decrease, at each place of a zone; those
// of other zones do not matter.
func TestOrderOfUntil(t *testing.T) {
	for i := range 8 {
		for _, step := range []int{0, -1, -1000, -100000} {
			zones := manyZones(3, 10)
			zones[1].Eras[i+1].Until = zones[1].Eras[i].Until + step
			checkBad(t, api.Book{Zones: zones}, api.ErrForm)
		}
		zones := manyZones(3, 10)
		zones[1].Eras[i+1].Until = zones[1].Eras[i].Until + 1
		checkGood(t, api.Book{Zones: zones})
	}
	// The last era has no Until with which the one before could be compared.
	checkGood(t, api.Book{Zones: []api.Zone{{Name: "A", Eras: []api.Era{{Format: "A", Until: 5}, {Format: "A"}}}}})
	checkGood(t, api.Book{Zones: []api.Zone{{Name: "A", Eras: []api.Era{{Format: "A", Until: -5}, {Format: "A"}}}}})
}

// badNames are no names, but some of them are words.
func badNames() []string {
	return []string{"", " ", "-", "+", "1", "1a", "_a", "/a", "-a", "a b", "a ", " a", "a\n", "a+", "a.b", "a%", "ä", "aä", "a\x00", "a\xff",
		"ABCDEFGHIJKLMNOPQRSTU", strings.Repeat("a", 1<<16)}
}

// P11: names of zones and links, the shortest and the longest ones.
func TestNames(t *testing.T) {
	for _, name := range []string{"a", "Z", "z9", "a_/-", "ABCDEFGHIJKLMNOPQRST", "zone", "era", "link", "rule", "berlin", "EUROPE/BERLIN"} {
		checkGood(t, with(func(b *api.Book) { b.Zones[2].Name = name }))
		checkGood(t, with(func(b *api.Book) { b.Links[2].Name = name }))
		checkGood(t, with(func(b *api.Book) { b.Zones[2].Name, b.Links[2].To = name, name }))
		checkGood(t, with(func(b *api.Book) { b.Links[2].Name, b.Links[2].To = name, name }))
	}
	for _, name := range badNames() {
		for i := range 3 {
			checkBad(t, with(func(b *api.Book) { b.Zones[i].Name = name }), api.ErrSyntax)
			checkBad(t, with(func(b *api.Book) { b.Links[i].Name = name }), api.ErrSyntax)
			checkBad(t, with(func(b *api.Book) { b.Links[i].To = name }), api.ErrSyntax)
			checkBad(t, with(func(b *api.Book) { b.Links[i].Name, b.Links[i].To = name, name }), api.ErrSyntax)
		}
		if name != "" {
			checkBad(t, with(func(b *api.Book) { b.Zones[0].Eras[2].Rules = name }), api.ErrNone)
			checkBad(t, with(func(b *api.Book) { b.Zones[0].Eras[0].Rules = name }), api.ErrNone)
		}
	}
}

// P11: names that occur twice.
func TestNamesTwice(t *testing.T) {
	for i := range maxZones {
		for k := range i {
			b := api.Book{Zones: manyZones(maxZones, 1)}
			b.Zones[i].Name = b.Zones[k].Name
			checkBad(t, b, api.ErrTwice)
			b = api.Book{Links: loops(maxLinks)}
			b.Links[i].Name = b.Links[k].Name
			checkBad(t, b, api.ErrTwice)
		}
		for k := range maxLinks {
			b := api.Book{Zones: manyZones(maxZones, 1), Links: loops(maxLinks)}
			b.Links[k].Name = b.Zones[i].Name
			checkBad(t, b, api.ErrTwice)
		}
	}
	// The same link twice, and a link from a zone to itself.
	checkBad(t, with(func(b *api.Book) { b.Links[1] = b.Links[0] }), api.ErrTwice)
	checkBad(t, with(func(b *api.Book) { b.Links[1] = api.Link{Name: "UTC", To: "UTC"} }), api.ErrTwice)
}

// P11: where links lead, forward, back, to themselves and nowhere.
func TestLinks(t *testing.T) {
	for i := range 5 {
		for k := range 5 {
			b := api.Book{Zones: manyZones(5, 1), Links: manyLinks(5)}
			b.Links[i].To = b.Links[k].Name
			checkGood(t, b)
			b.Links[i].To = b.Zones[k].Name
			checkGood(t, b)
		}
		for _, to := range []string{"Nowhere", "z0", "l0", "Z", "Z00", "EU", "UTC"} {
			b := api.Book{Rules: manyRules(4), Zones: manyZones(5, 1), Links: manyLinks(5)}
			b.Links[i].To = to
			checkBad(t, b, api.ErrNone)
		}
	}
	checkBad(t, api.Book{Links: []api.Link{{Name: "A", To: "B"}}}, api.ErrNone)
}

// P11: rules that an era mentions are anywhere among the rules, or nowhere.
func TestRulesOfEras(t *testing.T) {
	for i := range maxRules {
		b := api.Book{Rules: manyRules(maxRules), Zones: []api.Zone{{Name: "A", Eras: []api.Era{{Rules: "This", Format: "A"}}}}}
		checkBad(t, b, api.ErrNone)
		b.Rules[i].Name = "This"
		checkGood(t, b)
	}
	for _, name := range []string{"eu", "E", "EUS", "U", "UTC", "B"} {
		checkBad(t, with(func(b *api.Book) { b.Zones[0].Eras[2].Rules = name }), api.ErrNone)
	}
	checkBad(t, with(func(b *api.Book) { b.Rules = nil }), api.ErrNone)
	checkBad(t, with(func(b *api.Book) { b.Rules = b.Rules[:2] }), api.ErrNone)
	for i := range 3 {
		checkBad(t, with(func(b *api.Book) { b.Zones[i].Eras = nil }), api.ErrForm)
		checkBad(t, with(func(b *api.Book) { b.Zones[i].Eras = []api.Era{} }), api.ErrForm)
	}
}

// A flaw makes a good book a bad one. Two flaws of the same field are not
// combined.
type flaw struct {
	field  string
	change func(b *api.Book)
	want   api.Errno
	// The era with the flaw, counted in its zone, and whether it is one of Until.
	zone, era int
	until     bool
}

// flaws returns flaws of the example's book, in the order in which the
// document mentions them.
func flaws() (list []flaw) {
	add := func(field string, want api.Errno, change func(b *api.Book)) {
		list = append(list, flaw{field: field, want: want, change: change, zone: -1})
	}
	add("rules", api.ErrLarge, func(b *api.Book) { b.Rules = append(b.Rules, manyRules(maxRules-3)...) })
	add("zones", api.ErrLarge, func(b *api.Book) { b.Zones = append(b.Zones, manyZones(maxZones-2, 1)...) })
	add("links", api.ErrLarge, func(b *api.Book) { b.Links = append(b.Links, manyLinks(maxLinks-2)...) })
	for i := range 4 {
		field := "rule " + strconv.Itoa(i)
		add(field+" name", api.ErrSyntax, func(b *api.Book) { b.Rules[i].Name = "" })
		add(field+" letter", api.ErrSyntax, func(b *api.Book) { b.Rules[i].Letter = "%" })
		add(field+" to", api.ErrArg, func(b *api.Book) { b.Rules[i].To = 2101 })
		add(field+" save", api.ErrArg, func(b *api.Book) { b.Rules[i].Save = maxSave + 1 })
	}
	for i, zone := range exampleBook().Zones {
		field := "zone " + strconv.Itoa(i)
		add(field+" name", api.ErrSyntax, func(b *api.Book) { b.Zones[i].Name = "1" })
		if i > 0 {
			add(field+" name", api.ErrTwice, func(b *api.Book) { b.Zones[i].Name = b.Zones[i-1].Name })
		}
		add(field+" eras", api.ErrForm, func(b *api.Book) { b.Zones[i].Eras = nil })
		add(field+" eras", api.ErrLarge, func(b *api.Book) { b.Zones[i].Eras = append(b.Zones[i].Eras, manyEras(maxEras)...) })
		for k := range zone.Eras {
			list = append(list, eraFlaws(i, k)...)
		}
	}
	for i := range 3 {
		field := "link " + strconv.Itoa(i)
		add(field+" name", api.ErrSyntax, func(b *api.Book) { b.Links[i].Name = "_" })
		add(field+" to", api.ErrSyntax, func(b *api.Book) { b.Links[i].To = "" })
		add(field+" name", api.ErrTwice, func(b *api.Book) { b.Links[i].Name = b.Zones[1].Name })
		if i > 0 {
			add(field+" name", api.ErrTwice, func(b *api.Book) { b.Links[i].Name = b.Links[i-1].Name })
		}
		add(field+" to", api.ErrNone, func(b *api.Book) { b.Links[i].To = "Nowhere" })
	}
	return list
}

// eraFlaws returns the flaws of one era.
func eraFlaws(i, k int) (list []flaw) {
	add := func(field string, want api.Errno, change func(era, before *api.Era)) {
		list = append(list, flaw{
			field: "era " + strconv.Itoa(i) + " " + strconv.Itoa(k) + " " + field, want: want, zone: i, era: k, until: field == "until",
			change: func(b *api.Book) { change(&b.Zones[i].Eras[k], &b.Zones[i].Eras[max(k-1, 0)]) },
		})
	}
	eras := exampleBook().Zones[i].Eras
	add("offset", api.ErrArg, func(era, _ *api.Era) { era.Offset = maxOffset + 1 })
	add("save", api.ErrArg, func(era, _ *api.Era) { era.Save = -1 })
	if eras[k].Rules != "" {
		add("save", api.ErrForm, func(era, _ *api.Era) { era.Save = 1 })
	}
	if eras[k].Save != 0 {
		add("rules", api.ErrForm, func(era, _ *api.Era) { era.Rules = "Nobody" })
	} else {
		add("rules", api.ErrNone, func(era, _ *api.Era) { era.Rules = "Nobody" })
	}
	add("format", api.ErrSyntax, func(era, _ *api.Era) { era.Format = "" })
	add("format", api.ErrForm, func(era, _ *api.Era) { era.Format = "%" })
	if eras[k].Rules != "" {
		add("format", api.ErrLarge, func(era, _ *api.Era) { era.Format = "ABCDEFGH%" })
	}
	if k == len(eras)-1 {
		add("until", api.ErrForm, func(era, _ *api.Era) { era.Until = lastTime + 1 })
		return list
	}
	add("until", api.ErrArg, func(era, _ *api.Era) { era.Until = lastTime + 1 })
	if k > 0 {
		add("until", api.ErrForm, func(era, before *api.Era) { era.Until = before.Until })
	}
	return list
}

// P11: each flaw alone, and of every two the one that is mentioned first.
func TestOrderOfErrors(t *testing.T) {
	all := flaws()
	for i, first := range all {
		checkBad(t, with(first.change), first.want)
		for _, second := range all[i+1:] {
			if second.field == first.field {
				continue
			}
			b := with(func(b *api.Book) { second.change(b); first.change(b) })
			// The document may be read in two ways here: the times Until are
			// checked era by era with all else, or after all else of a zone.
			if first.until && !second.until && second.zone == first.zone && second.era > first.era {
				if e := book.Check(b); e != first.want && e != second.want {
					t.Errorf("%s and %s: error %d, want %d or %d", first.field, second.field, e, first.want, second.want)
				}
				continue
			}
			if e := book.Check(b); e != first.want {
				t.Errorf("%s and %s: error %d, want %d", first.field, second.field, e, first.want)
			}
		}
	}
}

// P11: the errors of one era, in their order, when one flaw after the other is
// removed.
func TestErrorsOfOneEra(t *testing.T) {
	era := api.Era{Offset: maxOffset + 1, Rules: "Nobody", Save: maxSave + 1, Format: "%%", Until: lastTime + 1}
	check := func(want api.Errno) {
		t.Helper()
		checkBad(t, with(func(b *api.Book) { b.Zones[0].Eras[1] = era }), want)
	}
	check(api.ErrArg)
	era.Offset = maxOffset
	check(api.ErrArg)
	era.Save = maxSave
	check(api.ErrForm)
	era.Save = 0
	check(api.ErrNone)
	era.Rules = "EU"
	check(api.ErrSyntax)
	era.Format = "ABCDEFGH%"
	check(api.ErrLarge)
	era.Format = "%"
	check(api.ErrForm)
	era.Format = "%T"
	check(api.ErrArg)
	era.Until = exampleBook().Zones[0].Eras[0].Until
	check(api.ErrForm)
	era.Until++
	checkGood(t, with(func(b *api.Book) { b.Zones[0].Eras[1] = era }))
}

// P11: rule.Check's errors, of rules that no era mentions too.
func TestErrorsOfRules(t *testing.T) {
	for i := range maxRules {
		for _, c := range []struct {
			change func(r *api.Rule)
			want   api.Errno
		}{
			{func(r *api.Rule) { r.Name = "1" }, api.ErrSyntax}, {func(r *api.Rule) { r.Letter = "" }, api.ErrSyntax},
			{func(r *api.Rule) { r.From = 1899 }, api.ErrArg}, {func(r *api.Rule) { r.On.Kind = 0 }, api.ErrArg},
			{func(r *api.Rule) { r.Month, r.On = 2, api.Day{Kind: 1, N: 29} }, api.ErrArg}, {func(r *api.Rule) { r.By = 3 }, api.ErrArg},
		} {
			b := api.Book{Rules: manyRules(maxRules)}
			c.change(&b.Rules[i])
			checkBad(t, b, c.want)
			b.Rules = slices.Concat(b.Rules[i:i+1], b.Rules[:i])
			checkBad(t, b, c.want)
		}
	}
}
