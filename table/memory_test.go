package table_test

import (
	"slices"
	"strconv"
	"strings"
	"testing"
	"unsafe"

	"timeball/api"
	"timeball/book"
	"timeball/table"
)

// asked are zones of the example and a link.
var asked = []string{"Europe/Berlin", "B", "America/New_York", "UTC", "Mixed"}

// inTime are spans with changes and without.
var inTime = []api.Span{always, {From: firstTime, To: firstTime + 1}, {From: -1000000000, To: 1000000000}, {From: 900000000, To: 910000000}, {From: 1700000000, To: 1800000000}}

// changing returns a string whose bytes become something else when the
// function is called.
func changing(s string) (string, func()) {
	bytes := []byte(s)
	return unsafe.String(unsafe.SliceData(bytes), len(bytes)), func() {
		for i := range bytes {
			bytes[i] = '#'
		}
	}
}

// changingAll makes strings change when the function is called.
func changingAll(list ...*string) func() {
	var all []func()
	for _, s := range list {
		changed, change := changing(*s)
		*s, all = changed, append(all, change)
	}
	return func() {
		for _, change := range all {
			change()
		}
	}
}

// changingBook returns the example's book, whose strings and lists become
// something else when the function is called.
func changingBook() (api.Book, func()) {
	b := exampleBook()
	var list []*string
	for i := range b.Rules {
		list = append(list, &b.Rules[i].Name, &b.Rules[i].Letter)
	}
	for i := range b.Zones {
		list = append(list, &b.Zones[i].Name)
		for k := range b.Zones[i].Eras {
			list = append(list, &b.Zones[i].Eras[k].Rules, &b.Zones[i].Eras[k].Format)
		}
	}
	for i := range b.Links {
		list = append(list, &b.Links[i].Name, &b.Links[i].To)
	}
	change := changingAll(list...)
	return b, func() {
		change()
		clear(b.Rules)
		for _, z := range b.Zones {
			clear(z.Eras)
		}
		clear(b.Zones)
		clear(b.Links)
	}
}

// copyOf returns a copy of a table, its strings included.
func copyOf(x api.Table) api.Table {
	y := api.Table{Types: slices.Clone(x.Types), First: x.First, Changes: slices.Clone(x.Changes)}
	for i := range y.Types {
		y.Types[i].Name = strings.Clone(y.Types[i].Name)
	}
	return y
}

// P2: a table stays as it is when the memory of the arguments changes, that of
// the abbreviations included.
func TestTablesStay(t *testing.T) {
	for _, name := range asked {
		for _, s := range inTime {
			x, wantError := table.Make(exampleBook(), name, s)
			want := copyOf(x)
			b, changeBook := changingBook()
			own, changeName := changing(name)
			x, e := table.Make(b, own, s)
			changeBook()
			changeName()
			if !same(x, want) || e != wantError {
				t.Errorf("the table of %s for %v became %s, %d, want %s, %d", name, s, show(x), e, show(want), wantError)
			}
		}
	}
}

// P2: a type stays as it is when the memory of the table changes.
func TestTypesStay(t *testing.T) {
	for _, at := range []int{-1000, -100, 0, 150, 1000} {
		x := simple()
		want, _ := table.At(x, at)
		want.Name = strings.Clone(want.Name)
		change := changingAll(&x.Types[0].Name, &x.Types[1].Name, &x.Types[2].Name)
		kind, e := table.At(x, at)
		change()
		clear(x.Types)
		clear(x.Changes)
		if kind != want || e != api.OK {
			t.Errorf("the type at %d became %v, %d, want %v", at, kind, e, want)
		}
	}
}

// P2: no two abbreviations share memory: neither those of one table, nor those
// of several calls, nor those of the arguments.
func TestAbbreviationsAreNew(t *testing.T) {
	b := bookOf("rule R 2000 2001 4 1 0:00 1:00 Summer", "rule R 2000 2001 10 1 0:00 0:00 Normal", "zone A\nera 0:00 -0:00 Format 1999-01-01T00:00:00\nera 0:00 R a% 2001-01-01T00:00:00\nera 0:00 R AB/CD 2002-01-01T00:00:00\nera 1:00 -0:00 Format")
	seen := map[*byte]bool{}
	count := 0
	add := func(s string) {
		seen[unsafe.StringData(s)] = true
		count++
	}
	for _, r := range b.Rules {
		add(r.Letter)
	}
	for _, era := range b.Zones[0].Eras {
		for i := range era.Format {
			add(era.Format[i:])
		}
	}
	for range 3 {
		x, e := table.Make(b, "A", always)
		if len(x.Types) != 6 || e != api.OK {
			t.Fatalf("%s, %d", show(x), e)
		}
		for _, kind := range x.Types {
			add(kind.Name)
		}
		for _, change := range x.Changes {
			for range 2 {
				kind, _ := table.At(x, change.At)
				add(kind.Name)
			}
		}
	}
	if len(seen) != count {
		t.Errorf("%d of %d abbreviations share memory", count-len(seen), count)
	}
}

// P2: two tables share no memory, the room behind their lists included.
func TestTablesAreNew(t *testing.T) {
	b := exampleBook()
	for _, name := range asked[:4] {
		for _, s := range inTime {
			x, _ := table.Make(b, name, s)
			y, _ := table.Make(b, name, s)
			want := copyOf(y)
			clear(x.Types[:cap(x.Types)])
			clear(x.Changes[:cap(x.Changes)])
			if !same(y, want) {
				t.Errorf("a table of %s for %v became %s, want %s", name, s, show(y), show(want))
			}
			z, e := table.Make(b, name, s)
			if !same(z, want) || e != api.OK {
				t.Errorf("a new table of %s for %v is %s, want %s", name, s, show(z), show(want))
			}
		}
	}
}

// roomy returns a copy of a list with room behind it, which is filled with
// marks, and all of the memory.
func roomy[T any](list []T, mark T) (short, all []T) {
	all = slices.Clone(list)
	for range 5 {
		all = append(all, mark)
	}
	return all[:len(list)], all
}

func sameZone(p, q api.Zone) bool { return p.Name == q.Name && slices.Equal(p.Eras, q.Eras) }

// P2: a book, good or bad, stays as it is, and the room behind its lists.
func TestBooksStay(t *testing.T) {
	// The transitions of the last book are in another order than its rules.
	backward := exampleBook()
	slices.Reverse(backward.Rules)
	books := []api.Book{exampleBook(), {}, bookOf(places), ruledZones(), manyEras(maxTypes+1, maxTypes+1), backward}
	for _, flaw := range flaws() {
		books = append(books, with(flaw.change))
	}
	mark := api.Rule{Name: "EU", From: 2000, To: 2000, Month: 1, On: api.Day{Kind: 1, N: 1}, Letter: "X"}
	for _, want := range books {
		rules, allRules := roomy(want.Rules, mark)
		links, allLinks := roomy(want.Links, api.Link{Name: "mark"})
		zones, allZones := roomy(want.Zones, api.Zone{Name: "mark"})
		var allEras [][]api.Era
		for i := range zones {
			eras, all := roomy(zones[i].Eras, api.Era{Format: "mark"})
			zones[i].Eras, allEras = eras, append(allEras, all)
		}
		b := api.Book{Rules: rules, Zones: zones, Links: links}
		for _, name := range append(asked, "A", "Self", "", "Nobody", "Pacific/Apia", "GLF") {
			for _, s := range append(inTime, api.Span{}, api.Span{From: 1, To: -1}) {
				table.Make(b, name, s)
			}
		}
		whole := slices.Equal(rules, want.Rules) && slices.Equal(links, want.Links) && slices.EqualFunc(zones, want.Zones, sameZone)
		for i := range 5 {
			whole = whole && allRules[len(rules)+i] == mark && allLinks[len(links)+i] == api.Link{Name: "mark"}
			whole = whole && sameZone(allZones[len(zones)+i], api.Zone{Name: "mark"})
			for k, all := range allEras {
				whole = whole && all[len(want.Zones[k].Eras)+i] == api.Era{Format: "mark"}
			}
		}
		if !whole {
			t.Errorf("%s was changed", show(want))
		}
	}
}

// P2: a table, good or bad, stays as it is, and the room behind its lists.
func TestArgumentsStay(t *testing.T) {
	tables := []api.Table{simple(), {}, {Types: manyTypes(maxTypes), Changes: manyTimes(maxChanges)}}
	for _, fault := range faults() {
		x := simple()
		fault.change(&x)
		tables = append(tables, x)
	}
	for _, want := range tables {
		types, allTypes := roomy(want.Types, standard(1, "mark"))
		changes, allChanges := roomy(want.Changes, api.Change{At: 1 << 39, Type: 1})
		x := api.Table{Types: types, First: want.First, Changes: changes}
		table.Check(x)
		for _, at := range append(around, -101, -100, 99, 200) {
			table.At(x, at)
		}
		whole := same(x, want)
		for i := range 5 {
			whole = whole && allTypes[len(types)+i] == standard(1, "mark") && allChanges[len(changes)+i] == api.Change{At: 1 << 39, Type: 1}
		}
		if !whole {
			t.Errorf("%s was changed", show(want))
		}
	}
}

// ask returns tables of a book and types of a table, good ones or not, as a text.
func ask(i int, books []flaw, tables []fault) string {
	b, x := exampleBook(), simple()
	b.Rules[0].Save, b.Zones[2].Eras[0].Offset, x.First = 1+i%maxSave, i, i%3
	if i%3 == 2 {
		books[i/3%len(books)].change(&b)
		tables[i/3%len(tables)].change(&x)
	}
	var out strings.Builder
	for _, name := range append(asked, "Self", "Nobody") {
		for _, s := range []api.Span{{From: 900000000, To: 1000000000}, {From: -i, To: i}, {From: firstTime, To: lastTime + 1}} {
			y, e := table.Make(b, name, s)
			out.WriteString(show(y) + " " + strconv.Itoa(int(e)) + ";")
		}
	}
	for at := -150; at <= 250; at += 50 {
		kind, e := table.At(x, at)
		out.WriteString(show(kind) + " " + strconv.Itoa(int(e)) + " " + strconv.Itoa(int(table.Check(x))) + ";")
	}
	return out.String()
}

// P2: a result does not depend on which calls were made before, failed ones
// included.
func TestNoStateIsKept(t *testing.T) {
	const calls = 120
	books, tables := flaws(), faults()
	var upward []string
	for i := range calls {
		upward = append(upward, ask(i, books, tables))
	}
	for i := calls - 1; i >= 0; i-- {
		if got := ask(i, books, tables); got != upward[i] {
			t.Fatalf("call %d: %s, and before %s", i, show(got), show(upward[i]))
		}
	}
}

// P2: calls from several goroutines do not disturb each other.
func TestCallsAtTheSameTime(t *testing.T) {
	const workers = 8
	failed := make(chan string, workers)
	shared, sharedTable := exampleBook(), simple()
	s := spanOf("1997-01-01T00:00:00", "1998-01-01T00:00:00")
	for w := range workers {
		go func() {
			own := exampleBook()
			own.Rules[0].Save = 600 * (w + 1)
			wantOwn := tableOf(cet, step{"1997-03-30T01:00:00", summer(3600+600*(w+1), "CEST")}, step{"1997-10-26T01:00:00", cet})
			wantShared := tableOf(cet, step{"1997-03-30T01:00:00", cest}, step{"1997-10-26T01:00:00", cet})
			for range 60 {
				x, e := table.Make(own, "B", s)
				y, e2 := table.Make(shared, "Berlin", s)
				_, e3 := table.Make(shared, "Mixed", s)
				kind, e4 := table.At(sharedTable, w*50-101)
				if !same(x, wantOwn) || !same(y, wantShared) || kind != typeAt(simple(), w*50-101) || e != api.OK || e2 != api.OK || e3 != api.ErrForm || e4 != api.OK {
					failed <- show(x) + show(y) + show(kind)
					return
				}
			}
			failed <- ""
		}()
	}
	for range workers {
		if s := <-failed; s != "" {
			t.Errorf("%s: wrong results", s)
		}
	}
	if text, e := book.Text(shared); text != example || e != api.OK || !same(sharedTable, simple()) {
		t.Errorf("the shared book became %q, %d, the shared table %s", text, e, show(sharedTable))
	}
}
