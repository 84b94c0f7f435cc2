package table_test

import (
	"slices"
	"testing"

	"timeball/api"
	"timeball/clock"
	"timeball/names"
	"timeball/state"
	"timeball/table"
	"timeball/turns"
)

// example is a text with everything that a book may contain.
const example = "rule EU 1981 2030 3 lastSun 1:00u 1:00 S\n" +
	"rule EU 1996 2030 10 lastSun 1:00u 0:00 -\n" +
	"rule US 2007 2030 3 Sun>=8 2:00 1:00 D\n" +
	"rule US 2007 2030 11 Sun>=1 2:00 0:00 S\n" +
	"rule Bad 2000 2000 4 1 2:00 1:00 S\n" +
	"rule Bad 2000 2000 4 1 3:00 0:00 -\n" +
	"zone Europe/Berlin\n" +
	"era 0:53:28 -0:00 LMT 1893-03-31T23:06:32\n" +
	"era 1:00 -0:00 CET 1940-04-01T01:00:00\n" +
	"era 1:00 -1:00 CET/CEST 1942-11-02T01:00:00\n" +
	"era 1:00 EU CE%T\n" +
	"zone America/New_York\n" +
	"era -5:00 US E%T\n" +
	"zone UTC\n" +
	"era 0:00 -0:00 UTC\n" +
	"zone Mixed\n" +
	"era 1:00 Bad M%T 1999-01-01T00:00:00\n" +
	"era 1:00 EU M%T 2001-01-01T00:00:00\n" +
	"era 2:00 -0:00 MMT\n" +
	"link B Berlin\n" +
	"link Berlin Europe/Berlin\n" +
	"link Self Self\n" +
	"link Hen Egg\n" +
	"link Egg Hen\n" +
	"link Nest Egg"

func exampleBook() api.Book { return bookOf(example) }

// with returns the example's book after a change.
func with(change func(b *api.Book)) api.Book {
	b := exampleBook()
	change(&b)
	return b
}

// always is the span of all supported times but the last one.
var always = api.Span{From: firstTime, To: lastTime}

// spanOf returns the span between two timestamps.
func spanOf(from, to string) api.Span { return api.Span{From: timeOf(from), To: timeOf(to)} }

// same reports whether two tables are the same.
func same(x, y api.Table) bool {
	return slices.Equal(x.Types, y.Types) && x.First == y.First && slices.Equal(x.Changes, y.Changes)
}

// checkTable checks a table.
func checkTable(t *testing.T, b api.Book, name string, s api.Span, want api.Table) {
	t.Helper()
	x, e := table.Make(b, name, s)
	if !same(x, want) || e != api.OK {
		t.Errorf("Make(%s, %q, %v) = %s, %d, want %s", show(b), name, s, show(x), e, show(want))
	}
	if e := table.Check(x); e != api.OK {
		t.Errorf("Make(%s, %q, %v) is no table: error %d", show(b), name, s, e)
	}
}

// checkNone checks that there is an error, and nothing beside it.
func checkNone(t *testing.T, b api.Book, name string, s api.Span, want api.Errno) {
	t.Helper()
	if x, e := table.Make(b, name, s); x.Types != nil || x.First != 0 || x.Changes != nil || e != want {
		t.Errorf("Make(%s, %.40q, %v) = %s, %d, want a zero table and error %d", show(b), name, s, show(x), e, want)
	}
}

// step is a type and the timestamp from which it applies.
type step struct {
	stamp string
	kind  api.Type
}

// tableOf returns a table with a first type and steps to others, in which a
// type is listed where it is used first.
func tableOf(first api.Type, steps ...step) api.Table {
	x := api.Table{Types: []api.Type{first}}
	for _, s := range steps {
		number := slices.Index(x.Types, s.kind)
		if number < 0 {
			number = len(x.Types)
			x.Types = append(x.Types, s.kind)
		}
		x.Changes = append(x.Changes, api.Change{At: timeOf(s.stamp), Type: number})
	}
	return x
}

// expected returns what P17 demands, in its own words: each time at which an era
// ends or which is a transition of any era is compared with the second before it.
func expected(b api.Book, name string, s api.Span) (api.Table, api.Errno) {
	zone, e := names.Resolve(b, name)
	if e != api.OK {
		return api.Table{}, e
	}
	if s.From < firstTime || s.From > lastTime || s.To < firstTime || s.To > lastTime || s.To <= s.From {
		return api.Table{}, api.ErrArg
	}
	times, e := candidates(b, zone)
	if e != api.OK {
		return api.Table{}, e
	}
	typeOf := func(at int) api.Type {
		kind, e := state.At(b, name, at)
		if e != api.OK {
			panic("no type")
		}
		return kind
	}
	x := api.Table{Types: []api.Type{typeOf(s.From)}}
	for _, at := range times {
		if at <= s.From || at >= s.To {
			continue
		}
		kind := typeOf(at)
		if kind == typeOf(at-1) {
			continue
		}
		if !slices.Contains(x.Types, kind) {
			x.Types = append(x.Types, kind)
		}
		x.Changes = append(x.Changes, api.Change{At: at, Type: slices.Index(x.Types, kind)})
	}
	if len(x.Types) > maxTypes || len(x.Changes) > maxChanges {
		return api.Table{}, api.ErrLarge
	}
	return x, api.OK
}

// candidates returns the times at which a zone may change, in order, or the
// first error of its rules.
func candidates(b api.Book, zone api.Zone) (times []int, e api.Errno) {
	for i, era := range zone.Eras {
		if i < len(zone.Eras)-1 {
			times = append(times, era.Until)
		}
		if era.Rules == "" {
			continue
		}
		list, e := turns.Of(b, era.Rules, era.Offset)
		if e != api.OK {
			return nil, e
		}
		for _, turn := range list {
			times = append(times, turn.At)
		}
	}
	slices.Sort(times)
	return slices.Compact(times), api.OK
}

// checkMake checks a table, or an error, against P17.
func checkMake(t *testing.T, b api.Book, name string, s api.Span) api.Errno {
	t.Helper()
	want, e := expected(b, name, s)
	if e == api.OK {
		checkTable(t, b, name, s, want)
	} else {
		checkNone(t, b, name, s, e)
	}
	return e
}

var (
	lmt, cet, cest = standard(3208, "LMT"), standard(3600, "CET"), summer(7200, "CEST")
	est, edt       = standard(-18000, "EST"), summer(-14400, "EDT")
)

// P17: the example, in so many words: zones of one era and of several, with
// rules and without, by their names, by a link and by a link to a link.
func TestExample(t *testing.T) {
	b := exampleBook()
	for _, name := range []string{"Europe/Berlin", "Berlin", "B"} {
		checkTable(t, b, name, spanOf("1800-01-01T00:00:00", "1998-01-01T00:00:00"), tableOf(lmt,
			step{"1893-03-31T23:06:32", cet}, step{"1940-04-01T01:00:00", cest}, step{"1942-11-02T01:00:00", cet}, step{"1981-03-29T01:00:00", cest},
			step{"1996-10-27T01:00:00", cet}, step{"1997-03-30T01:00:00", cest}, step{"1997-10-26T01:00:00", cet}))
		checkTable(t, b, name, spanOf("2029-01-01T00:00:00", "2399-12-31T23:59:59"), tableOf(cet,
			step{"2029-03-25T01:00:00", cest}, step{"2029-10-28T01:00:00", cet}, step{"2030-03-31T01:00:00", cest}, step{"2030-10-27T01:00:00", cet}))
	}
	checkTable(t, b, "America/New_York", spanOf("1600-01-01T00:00:00", "2009-01-01T00:00:00"), tableOf(est,
		step{"2007-03-11T07:00:00", edt}, step{"2007-11-04T06:00:00", est}, step{"2008-03-09T07:00:00", edt}, step{"2008-11-02T06:00:00", est}))
	checkTable(t, b, "UTC", always, tableOf(standard(0, "UTC")))
	for _, name := range []string{"Europe/Berlin", "Berlin", "B", "America/New_York", "UTC"} {
		if checkMake(t, b, name, always) != api.OK {
			t.Errorf("%s has no table", name)
		}
	}
	// The first era of this zone has rules without transitions.
	checkNone(t, b, "Mixed", always, api.ErrForm)
	checkNone(t, b, "Mixed", spanOf("2010-01-01T00:00:00", "2011-01-01T00:00:00"), api.ErrForm)
}

// P17: a zone with one era without rules has no changes, whatever its span and
// its format.
func TestOneEraWithoutRules(t *testing.T) {
	for _, c := range []struct {
		era  string
		want api.Type
	}{
		{"era 0:00 -0:00 UTC", standard(0, "UTC")}, {"era 18:00 -3:00 +18/+21", summer(75600, "+21")}, {"era -18:00 -0:00 +18/+21", standard(-64800, "+18")},
		{"era -0:00:01 -0:00:01 A%B", summer(0, "AB")}, {"era 5:30 -0:00 IST", standard(19800, "IST")},
	} {
		b := bookOf("rule R 2000 2020 3 1 0:00 1:00 S", "zone A", c.era, "link L A")
		for _, s := range []api.Span{
			always, {From: firstTime, To: firstTime + 1}, {From: lastTime - 1, To: lastTime}, {From: -1, To: 0}, {From: 0, To: 1}, {From: -1 << 32, To: 1 << 32}, spanOf("2000-01-01T00:00:00", "2020-01-01T00:00:00"),
		} {
			for _, name := range []string{"A", "L"} {
				checkTable(t, b, name, s, tableOf(c.want))
			}
		}
	}
}

// P17: changes at From and at To are none: what applies at From is the first
// type, and what applies at To is not listed.
func TestEndsOfSpans(t *testing.T) {
	b := exampleBook()
	const until, forward, back = "1893-03-31T23:06:32", "1997-03-30T01:00:00", "1997-10-26T01:00:00"
	for _, c := range []struct {
		from, to string
		add      [2]int
		want     api.Table
	}{
		// Inside one era, and at its end.
		{"1850-01-01T00:00:00", "1860-01-01T00:00:00", [2]int{}, tableOf(lmt)},
		{"1850-01-01T00:00:00", until, [2]int{}, tableOf(lmt)},
		{"1850-01-01T00:00:00", until, [2]int{0, 1}, tableOf(lmt, step{until, cet})},
		{until, "1900-01-01T00:00:00", [2]int{}, tableOf(cet)},
		{until, "1900-01-01T00:00:00", [2]int{-1, 0}, tableOf(lmt, step{until, cet})},
		{until, "1900-01-01T00:00:00", [2]int{1, 0}, tableOf(cet)},
		{until, until, [2]int{-1, 1}, tableOf(lmt, step{until, cet})},
		{until, until, [2]int{-1, 0}, tableOf(lmt)},
		{until, until, [2]int{0, 1}, tableOf(cet)},
		// At transitions.
		{forward, back, [2]int{}, tableOf(cest)},
		{forward, back, [2]int{-1, 0}, tableOf(cet, step{forward, cest})},
		{forward, back, [2]int{1, 0}, tableOf(cest)},
		{forward, back, [2]int{1, -1}, tableOf(cest)},
		{forward, back, [2]int{0, 1}, tableOf(cest, step{back, cet})},
		{forward, back, [2]int{-1, 1}, tableOf(cet, step{forward, cest}, step{back, cet})},
		{forward, forward, [2]int{-1, 1}, tableOf(cet, step{forward, cest})},
		{forward, forward, [2]int{-1, 0}, tableOf(cet)},
		{forward, forward, [2]int{0, 1}, tableOf(cest)},
		{forward, forward, [2]int{1, 2}, tableOf(cest)},
		{"1997-01-01T00:00:00", forward, [2]int{}, tableOf(cet)},
		{"1997-01-01T00:00:00", forward, [2]int{0, 1}, tableOf(cet, step{forward, cest})},
		{back, "1998-01-01T00:00:00", [2]int{}, tableOf(cet)},
		{back, "1998-01-01T00:00:00", [2]int{-1, 0}, tableOf(cest, step{back, cet})},
	} {
		s := spanOf(c.from, c.to)
		s.From, s.To = s.From+c.add[0], s.To+c.add[1]
		checkTable(t, b, "B", s, c.want)
	}
}

// P17: First is the type at From, also where its era or its transition begins
// long before, and where the span begins in the last era.
func TestFirst(t *testing.T) {
	b := exampleBook()
	for stamp, want := range map[string]api.Type{
		"1600-01-01T00:00:00": lmt, "1893-03-31T23:06:31": lmt, "1893-03-31T23:06:32": cet, "1920-01-01T00:00:00": cet, "1940-04-01T00:59:59": cet, "1941-01-01T00:00:00": cest,
		"1942-11-02T01:00:00": cet, "1981-03-29T00:59:59": cet, "1990-01-01T00:00:00": cest, "1996-10-27T00:59:59": cest, "1996-10-27T01:00:00": cet, "2030-10-27T01:00:00": cet, "2399-12-31T23:59:58": cet,
	} {
		for _, length := range []int{1, 2, 1000, 1 << 34} {
			s := api.Span{From: timeOf(stamp)}
			s.To = min(s.From+length, lastTime)
			x, e := table.Make(b, "Berlin", s)
			if e != api.OK || x.First != 0 || len(x.Types) == 0 || x.Types[0] != want {
				t.Errorf("the table from %s on is %s, %d, want %v first", stamp, show(x), e, want)
			}
			checkMake(t, b, "Berlin", s)
		}
	}
}

// P17: the ends of the supported years may be the ends of a span, and one second
// more may not: also clock.Stamp says so.
func TestEndsOfYears(t *testing.T) {
	if timeOf("1600-01-01T00:00:00") != firstTime || timeOf("2399-12-31T23:59:59") != lastTime {
		t.Fatal("the test has wrong ends")
	}
	b := bookOf("zone A\nera 0:00 -0:00 A 1600-01-01T00:00:00\nera 0:00 -0:00 B 1600-01-01T00:00:01\nera 0:00 -0:00 C 2399-12-31T23:59:58\nera 0:00 -0:00 D 2399-12-31T23:59:59\nera 0:00 -0:00 E")
	// No supported time is in the first era, and none of a span in the last one.
	checkTable(t, b, "A", always, tableOf(standard(0, "B"), step{"1600-01-01T00:00:01", standard(0, "C")}, step{"2399-12-31T23:59:58", standard(0, "D")}))
	for _, s := range []api.Span{{From: firstTime - 1, To: lastTime}, {From: firstTime, To: lastTime + 1}, {From: firstTime - 1, To: firstTime}, {From: lastTime, To: lastTime + 1}} {
		_, fromError := clock.Stamp(s.From)
		_, toError := clock.Stamp(s.To)
		if fromError == api.OK && toError == api.OK {
			t.Errorf("the ends of %v have timestamps", s)
		}
		checkNone(t, b, "A", s, api.ErrArg)
	}
}
