package table_test

import (
	"testing"

	"timeball/api"
	"timeball/state"
	"timeball/table"
)

// P17: ends of eras at which the type stays the same are no changes, whether
// the eras have the same words or not.
func TestErasThatAreAlike(t *testing.T) {
	rules := "rule R 2000 2002 4 1 0:00u 1:00 S\nrule R 2000 2002 10 1 0:00u 0:00 -\nrule T 2000 2002 7 1 0:00u 1:00 S\nrule T 2000 2002 10 1 0:00u 0:00 -"
	const until = "2001-06-01T00:00:00"
	for _, c := range []struct {
		first, second string
		want          api.Table
	}{
		{"era 1:00 -0:00 A", "era 1:00 -0:00 A", tableOf(standard(3600, "A"))},
		{"era 1:00 -0:00 A%", "era 1:00 -0:00 A/B", tableOf(standard(3600, "A"))},
		{"era 1:00 -1:00 A", "era 0:30 -1:30 B/A", tableOf(summer(7200, "A"))},
		// One field differs.
		{"era 1:00 -1:00 A", "era 2:00 -0:00 A", tableOf(summer(7200, "A"), step{until, standard(7200, "A")})},
		{"era 1:00 -0:00 A", "era 1:00:01 -0:00 A", tableOf(standard(3600, "A"), step{until, standard(3601, "A")})},
		{"era 1:00 -0:00 A", "era 1:00 -0:00 a", tableOf(standard(3600, "A"), step{until, standard(3600, "a")})},
		{"era 1:00 -1:00 A", "era 1:00 -0:30 A", tableOf(summer(7200, "A"), step{until, summer(5400, "A")})},
		// With rules, which go on, or which begin as constant savings end.
		{"era 1:00 R A%", "era 1:00 R A%", tableOf(standard(3600, "A"), step{"2000-04-01T00:00:00", summer(7200, "AS")}, step{"2000-10-01T00:00:00", standard(3600, "A")},
			step{"2001-04-01T00:00:00", summer(7200, "AS")}, step{"2001-10-01T00:00:00", standard(3600, "A")}, step{"2002-04-01T00:00:00", summer(7200, "AS")}, step{"2002-10-01T00:00:00", standard(3600, "A")})},
		{"era 1:00 -1:00 AS", "era 1:00 R A%", tableOf(summer(7200, "AS"), step{"2001-10-01T00:00:00", standard(3600, "A")}, step{"2002-04-01T00:00:00", summer(7200, "AS")}, step{"2002-10-01T00:00:00", standard(3600, "A")})},
		{"era 1:00 -0:00 A", "era 1:00 T A%", tableOf(standard(3600, "A"), step{"2001-07-01T00:00:00", summer(7200, "AS")}, step{"2001-10-01T00:00:00", standard(3600, "A")},
			step{"2002-07-01T00:00:00", summer(7200, "AS")}, step{"2002-10-01T00:00:00", standard(3600, "A")})},
	} {
		b := bookOf(rules, "zone A", c.first+" "+until, c.second)
		checkTable(t, b, "A", always, c.want)
		checkMake(t, b, "A", always)
	}
}

// P17: transitions at which the type stays the same are no changes; the saving
// alone, the letter alone and the fact of a saving alone may make one.
func TestTransitionsThatChangeNothing(t *testing.T) {
	rules := "rule R 2000 2000 1 1 0:00u 0:00 -\nrule R 2000 2000 2 1 0:00u 1:00 S\nrule R 2000 2000 3 1 0:00u 1:00 S\nrule R 2000 2000 4 1 0:00u 1:00 M\n" +
		"rule R 2000 2000 5 1 0:00u 2:00 M\nrule R 2000 2000 6 1 0:00u 0:00 M\nrule R 2000 2000 7 1 0:00u 0:00 -\nrule R 2000 2000 8 1 0:00u 0:00 -"
	for era, want := range map[string]api.Table{
		"era 1:00 R x%": tableOf(standard(3600, "x"), step{"2000-02-01T00:00:00", summer(7200, "xS")}, step{"2000-04-01T00:00:00", summer(7200, "xM")},
			step{"2000-05-01T00:00:00", summer(10800, "xM")}, step{"2000-06-01T00:00:00", standard(3600, "xM")}, step{"2000-07-01T00:00:00", standard(3600, "x")}),
		"era 1:00 R A/B": tableOf(standard(3600, "A"), step{"2000-02-01T00:00:00", summer(7200, "B")}, step{"2000-05-01T00:00:00", summer(10800, "B")}, step{"2000-06-01T00:00:00", standard(3600, "A")}),
		"era 1:00 R C":   tableOf(standard(3600, "C"), step{"2000-02-01T00:00:00", summer(7200, "C")}, step{"2000-05-01T00:00:00", summer(10800, "C")}, step{"2000-06-01T00:00:00", standard(3600, "C")}),
	} {
		b := bookOf(rules, "zone A", era)
		checkTable(t, b, "A", always, want)
		checkMake(t, b, "A", always)
	}
	// Many transitions, and no change at all.
	b := bookOf("rule R 1900 2100 3 1 0:00 0:00 A", "rule R 1900 2100 6 1 0:00 0:00 B", "rule R 1900 2100 9 1 0:00 0:00 C", "rule R 1900 2100 12 1 0:00 0:00 D", "zone A\nera 1:00 R E\nlink L A")
	checkTable(t, b, "L", always, tableOf(standard(3600, "E")))
}

// P17: the letter before the first transition is that of standard time, and the
// transition to that letter is no change.
func TestBeforeTheFirstTransition(t *testing.T) {
	b := bookOf("rule R 2000 2000 4 1 0:00u 0:00 W", "rule R 2000 2000 7 1 0:00u 1:00 S", "rule T 2000 2000 4 1 0:00u 1:00 S", "rule T 2000 2000 7 1 0:00u 0:00 W",
		"rule U 2000 2000 4 1 0:00u 1:00 S", "zone R\nera 0:00 R x%", "zone T\nera 0:00 T x%", "zone U\nera 0:00 U x%")
	w, s := standard(0, "xW"), summer(3600, "xS")
	checkTable(t, b, "R", always, tableOf(w, step{"2000-07-01T00:00:00", s}))
	checkTable(t, b, "T", always, tableOf(w, step{"2000-04-01T00:00:00", s}, step{"2000-07-01T00:00:00", w}))
	checkTable(t, b, "U", always, tableOf(standard(0, "x"), step{"2000-04-01T00:00:00", s}))
}

// P17: transitions that lie outside of their era are no changes; one at the
// beginning of the era counts as one before it, and one at the end is not its.
func TestTransitionsOutsideOfTheEra(t *testing.T) {
	const first, second, third = "2000-01-01T00:00:00", "2000-04-01T00:00:00", "2000-10-01T00:00:00"
	before, after := standard(3600, "Before"), standard(10800, "After")
	a, b, c := standard(7200, "xA"), summer(10800, "xB"), standard(7200, "xC")
	for _, k := range []struct {
		from, to string // of the era with rules
		inside   []step
	}{
		{"1990-01-01T00:00:00", "1999-12-31T23:59:59", []step{{"1990-01-01T00:00:00", a}}},
		{"1990-01-01T00:00:00", first, []step{{"1990-01-01T00:00:00", a}}},
		{"1990-01-01T00:00:00", second, []step{{"1990-01-01T00:00:00", a}}},
		{"1990-01-01T00:00:00", "2000-04-01T00:00:01", []step{{"1990-01-01T00:00:00", a}, {second, b}}},
		{"1990-01-01T00:00:00", "2020-01-01T00:00:00", []step{{"1990-01-01T00:00:00", a}, {second, b}, {third, c}}},
		{first, "2000-03-31T23:59:59", []step{{first, a}}},
		{"2000-03-31T23:59:59", third, []step{{"2000-03-31T23:59:59", a}, {second, b}}},
		{second, third, []step{{second, b}}},
		{second, "2000-10-01T00:00:01", []step{{second, b}, {third, c}}},
		{"2000-04-01T00:00:01", "2000-09-30T23:59:59", []step{{"2000-04-01T00:00:01", b}}},
		{third, "2000-10-01T00:00:01", []step{{third, c}}},
		{"2050-01-01T00:00:00", "2060-01-01T00:00:00", []step{{"2050-01-01T00:00:00", c}}},
	} {
		x := bookOf("rule R 2000 2000 1 1 0:00u 0:00 A", "rule R 2000 2000 4 1 0:00u 1:00 B", "rule R 2000 2000 10 1 0:00u 0:00 C",
			"zone A\nera 1:00 -0:00 Before "+k.from+"\nera 2:00 R x% "+k.to+"\nera 3:00 -0:00 After")
		checkTable(t, x, "A", always, tableOf(before, append(k.inside, step{k.to, after})...))
		checkMake(t, x, "A", always)
	}
}

// P17: a type that comes back, in another era and from other words too, is
// listed once, where it is used first.
func TestTypesThatComeBack(t *testing.T) {
	b := bookOf("rule R 2000 2001 4 1 0:00u 1:00 S", "rule R 2000 2001 10 1 0:00u 0:00 -",
		"zone A\nera 1:00 R A% 2001-01-01T00:00:00\nera 2:00 -0:00 B 2001-02-01T00:00:00\nera 0:30 -1:30 XX/AS 2001-03-01T00:00:00\nera 3:00 R C% 2001-11-01T00:00:00\nera 1:00 -0:00 A")
	a, as, c, cs, other := standard(3600, "A"), summer(7200, "AS"), standard(10800, "C"), summer(14400, "CS"), standard(7200, "B")
	steps := []step{{"2000-04-01T00:00:00", as}, {"2000-10-01T00:00:00", a}, {"2001-01-01T00:00:00", other}, {"2001-02-01T00:00:00", as}, {"2001-03-01T00:00:00", c},
		{"2001-04-01T00:00:00", cs}, {"2001-10-01T00:00:00", c}, {"2001-11-01T00:00:00", a}}
	x := tableOf(a, steps...)
	if len(x.Types) != 5 {
		t.Fatalf("the test has %d types", len(x.Types))
	}
	checkTable(t, b, "A", always, x)
	// The order is that of the span, not that of the zone.
	first := a
	for i, s := range steps {
		checkTable(t, b, "A", api.Span{From: timeOf(s.stamp) - 1, To: lastTime}, tableOf(first, steps[i:]...))
		checkTable(t, b, "A", api.Span{From: timeOf(s.stamp), To: lastTime}, tableOf(s.kind, steps[i+1:]...))
		checkTable(t, b, "A", api.Span{From: firstTime, To: timeOf(s.stamp)}, tableOf(a, steps[:i]...))
		first = s.kind
	}
}

// P17: eras of one second, of which a span has some; two types take turns.
func TestErasOfOneSecond(t *testing.T) {
	b := api.Book{Zones: []api.Zone{{Name: "A"}}}
	for i := range 12 {
		b.Zones[0].Eras = append(b.Zones[0].Eras, api.Era{Offset: i % 2, Format: "A", Until: i})
	}
	b.Zones[0].Eras[11].Until = 0
	for from := -2; from < 14; from++ {
		for to := from + 1; to < 15; to++ {
			var want api.Table
			number := func(at int) int { return max(0, min(at+1, 11)) % 2 }
			want.Types = []api.Type{standard(number(from), "A")}
			for at := from + 1; at < to; at++ {
				if number(at) == number(at-1) {
					continue
				}
				if len(want.Types) == 1 {
					want.Types = append(want.Types, standard(number(at), "A"))
				}
				want.Changes = append(want.Changes, api.Change{At: at, Type: (number(at) + number(from)) % 2})
			}
			checkTable(t, b, "A", api.Span{From: from, To: to}, want)
		}
	}
}

// checkSeconds checks that at every time of a span, table.At says what state.At
// says, and that there are changes where, and only where, it differs from the
// second before.
func checkSeconds(t *testing.T, b api.Book, name string, s api.Span) {
	t.Helper()
	x, e := table.Make(b, name, s)
	if e != api.OK {
		t.Fatalf("Make(%s, %q, %v): error %d", show(b), name, s, e)
	}
	changes := map[int]bool{}
	for _, change := range x.Changes {
		changes[change.At] = true
	}
	before, _ := state.At(b, name, s.From)
	for at := s.From; at < s.To; at++ {
		want, e := state.At(b, name, at)
		if e != api.OK {
			t.Fatalf("no type at %d: error %d", at, e)
		}
		checkAt(t, x, at, want)
		if changes[at] != (want != before) {
			t.Errorf("Make(%s, %q, %v) has %s: wrong at %d", show(b), name, s, show(x), at)
		}
		before = want
	}
}

// P17: every second of some spans.
func TestEverySecond(t *testing.T) {
	b := bookOf("rule R 2000 2000 1 1 0:00u 0:30 A", "rule R 2000 2000 1 1 0:10u 0:00 B", "rule R 2000 2000 1 1 0:20u 0:30 A", "rule R 2000 2000 1 1 1:00 0:00 B",
		"zone A\nera 0:00 -0:00 xA 1999-12-31T23:59:50\nera 0:00 R x% 2000-01-01T00:05:00\nera 0:30 -0:00 xA 2000-01-01T00:07:00\nera 0:00:01 R x% 2000-01-01T00:10:00\nera 0:00 R x%")
	checkSeconds(t, b, "A", spanOf("1999-12-31T23:59:00", "2000-01-01T00:31:00"))
	for from := timeOf("1999-12-31T23:59:49"); from < timeOf("2000-01-01T00:00:02"); from++ {
		for to := from + 1; to < from+14; to++ {
			checkSeconds(t, b, "A", api.Span{From: from, To: to})
		}
	}
	for _, stamp := range []string{"1893-03-31T23:06:32", "1940-04-01T01:00:00", "1981-03-29T01:00:00", "1996-10-27T01:00:00", "2030-10-27T01:00:00"} {
		at := timeOf(stamp)
		checkSeconds(t, exampleBook(), "B", api.Span{From: at - 100, To: at + 100})
	}
}
