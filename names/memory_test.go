package names_test

import (
	"slices"
	"strconv"
	"strings"
	"testing"
	"unsafe"

	"timeball/api"
	"timeball/book"
	"timeball/names"
)

// changing returns a string whose bytes become something else when the
// function is called.
func changing(s string) (string, func()) {
	if s == "" {
		return "", func() {}
	}
	bytes := []byte(s)
	return unsafe.String(&bytes[0], len(bytes)), func() {
		for i := range bytes {
			bytes[i] = '#'
		}
	}
}

// changingBook returns the example's book, whose strings and lists become
// something else when the function is called.
func changingBook() (api.Book, func()) {
	b := exampleBook()
	var all []func()
	keep := func(list ...*string) {
		for _, s := range list {
			changed, change := changing(*s)
			*s, all = changed, append(all, change)
		}
	}
	for i := range b.Rules {
		keep(&b.Rules[i].Name, &b.Rules[i].Letter)
	}
	for i := range b.Zones {
		keep(&b.Zones[i].Name)
		for k := range b.Zones[i].Eras {
			keep(&b.Zones[i].Eras[k].Rules, &b.Zones[i].Eras[k].Format)
		}
	}
	for i := range b.Links {
		keep(&b.Links[i].Name, &b.Links[i].To)
	}
	return b, func() {
		for _, change := range all {
			change()
		}
		clear(b.Rules)
		for _, z := range b.Zones {
			clear(z.Eras)
		}
		clear(b.Zones)
		clear(b.Links)
	}
}

// P2: zones and names stay as they are when the memory of the arguments
// changes.
func TestResultsStay(t *testing.T) {
	good := []string{"B", "Berlin", "Europe/Berlin", "Europe/London", "UTC", "Zulu"}
	for _, name := range good {
		want, _ := names.Resolve(exampleBook(), name)
		b, changeBook := changingBook()
		asked, changeName := changing(name)
		z, e := names.Resolve(b, asked)
		list, e2 := names.All(b)
		changeBook()
		changeName()
		if !sameZone(z, want) || want.Name == "" || e != api.OK {
			t.Errorf("the zone %s became %v, %d", name, z, e)
		}
		if !slices.Equal(list, good) || e2 != api.OK {
			t.Errorf("the list became %q, %d", list, e2)
		}
	}
}

// P2: a book stays as it is when the memory of results changes, and so do other
// results, up to the capacities.
func TestResultsAreNew(t *testing.T) {
	b, want := exampleBook(), exampleBook()
	for i := range b.Zones {
		b.Zones[i].Eras = append(make([]api.Era, 0, 2*maxEras), b.Zones[i].Eras...)
	}
	for _, name := range []string{"Europe/Berlin", "Berlin", "B", "Zulu", "UTC"} {
		first, _ := names.Resolve(b, name)
		second, _ := names.Resolve(b, name)
		before := api.Zone{Name: second.Name, Eras: slices.Clone(second.Eras)}
		eras := first.Eras[:cap(first.Eras)]
		for i := range eras {
			eras[i] = api.Era{Offset: 1, Format: "spoilt"}
		}
		if third, _ := names.Resolve(b, name); !sameZone(second, before) || !sameZone(third, before) || !sameBook(b, want) {
			t.Errorf("%s: other zones became %v and %v, and the book %v", name, second, third, b)
		}
	}
	first, _ := names.All(b)
	second, _ := names.All(b)
	before := slices.Clone(second)
	first = first[:cap(first)]
	for i := range first {
		first[i] = "spoilt"
	}
	if third, _ := names.All(b); !slices.Equal(second, before) || !slices.Equal(third, before) || !sameBook(b, want) {
		t.Errorf("other lists became %q and %q, and the book %v", second, third, b)
	}
	for i := range b.Zones {
		if room := b.Zones[i].Eras[len(want.Zones[i].Eras):cap(b.Zones[i].Eras)]; slices.ContainsFunc(room, func(era api.Era) bool { return era != api.Era{} }) {
			t.Errorf("the room behind the eras of zone %d was changed", i)
		}
	}
}

// roomy returns a copy of a list with room behind it, which is filled with
// marks, and all of the memory.
func roomy[T any](list []T, mark T) (short, all []T) {
	all = slices.Clone(list)
	for range 5 {
		all = append(all, mark)
	}
	return all[:len(list)], all
}

// P2: a book, good or bad, stays as it is, and the room behind its lists.
func TestArgumentsStay(t *testing.T) {
	markZone := api.Zone{Name: "mark"}
	books := []api.Book{exampleBook(), {}, {Zones: zonesOf("A")}, {Links: ring("A", "B")}}
	for _, flaw := range flaws() {
		books = append(books, with(flaw.change))
	}
	for _, want := range books {
		rules, allRules := roomy(want.Rules, api.Rule{Name: "mark"})
		links, allLinks := roomy(want.Links, api.Link{Name: "mark"})
		zones, allZones := roomy(want.Zones, markZone)
		var allEras [][]api.Era
		for i := range zones {
			eras, all := roomy(zones[i].Eras, api.Era{Format: "mark"})
			zones[i].Eras, allEras = eras, append(allEras, all)
		}
		b := api.Book{Rules: rules, Zones: zones, Links: links}
		names.All(b)
		for _, name := range []string{"", "A", "Europe/Berlin", "UTC", "B", "Hen", "Nobody"} {
			names.Resolve(b, name)
		}
		whole := sameBook(b, want)
		for i := range 5 {
			whole = whole && allRules[len(rules)+i] == api.Rule{Name: "mark"} && allLinks[len(links)+i] == api.Link{Name: "mark"}
			whole = whole && sameZone(allZones[len(zones)+i], markZone)
			for k, all := range allEras {
				whole = whole && all[len(want.Zones[k].Eras)+i] == api.Era{Format: "mark"}
			}
		}
		if !whole {
			t.Errorf("%s was changed", show(want))
		}
	}
}

// ask returns the answers about a book, a good one or not, as a text.
func ask(i int, list []flaw) string {
	b := exampleBook()
	b.Zones[2].Eras[0].Offset = i % 1000
	b.Links[i%7].To = b.Links[i/7%7].Name
	if i%3 == 2 {
		list[i/3%len(list)].change(&b)
	}
	all, e := names.All(b)
	var out strings.Builder
	out.WriteString(strings.Join(all, " ") + " " + strconv.Itoa(int(e)))
	for _, name := range []string{"Europe/Berlin", "UTC", "B", "Berlin", "Zulu", "Self", "Hen", "Nest", "Nobody"} {
		z, e := names.Resolve(b, name)
		out.WriteString(" " + show(z) + " " + strconv.Itoa(int(e)))
	}
	return out.String()
}

// P2: a result does not depend on which calls were made before, failed ones
// included.
func TestNoStateIsKept(t *testing.T) {
	const calls = 1000
	list := flaws()
	var upward []string
	for i := range calls {
		upward = append(upward, ask(i, list))
	}
	for i := calls - 1; i >= 0; i-- {
		if got := ask(i, list); got != upward[i] {
			t.Fatalf("call %d: %s, and before %s", i, got, upward[i])
		}
	}
}

// P2: calls from several goroutines do not disturb each other.
func TestCallsAtTheSameTime(t *testing.T) {
	const workers = 8
	failed := make(chan string, workers)
	shared := exampleBook()
	for w := range workers {
		go func() {
			own := api.Book{Zones: zonesOf(numbered("W"+strconv.Itoa(w)+"/", maxZones)...)}
			own.Links = chain(own.Zones[w].Name, numbered("L", maxLinks)...)
			want := own.Zones[w]
			for range 200 {
				z, e1 := names.Resolve(own, "L19")
				london, e2 := names.Resolve(shared, "Europe/London")
				all, e3 := names.All(own)
				if !sameZone(z, want) || len(all) != 40 || !sameZone(london, shared.Zones[1]) || e1 != api.OK || e2 != api.OK || e3 != api.OK {
					failed <- show(z)
					return
				}
			}
			failed <- ""
		}()
	}
	for range workers {
		if s := <-failed; s != "" {
			t.Errorf("%s: wrong results", s)
		}
	}
	if text, e := book.Text(shared); text != example || e != api.OK {
		t.Errorf("the shared book became %q, %d", text, e)
	}
}
