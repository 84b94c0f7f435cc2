package book_test

import (
	"slices"
	"strconv"
	"testing"
	"unsafe"

	"timeball/api"
	"timeball/book"
)

// changing returns a string whose bytes become something else when the
// function is called.
func changing(s string) (string, func()) {
	if s == "" {
		return "", func() {}
	}
	bytes := []byte(s)
	return unsafe.String(&bytes[0], len(bytes)), func() {
		for i := range bytes {
			bytes[i] = '#'
		}
	}
}

// P2: abbreviations stay as they are when the memory of the arguments changes.
func TestAbbrsShareNoMemory(t *testing.T) {
	for _, c := range [][3]string{
		{"CET", "S", "CET"}, {"GMT/BST", "S", "GMT"}, {"CE%T", "S", "CEST"}, {"%", "CEST", "CEST"}, {"CET%", "-", "CET"}, {"%T", "CES", "CEST"},
	} {
		format, changeFormat := changing(c[0])
		letter, changeLetter := changing(c[1])
		s, e := book.Abbr(format, 0, letter)
		changeFormat()
		changeLetter()
		if s != c[2] || e != api.OK {
			t.Errorf("Abbr(%q, 0, %q) became %q, %d", c[0], c[1], s, e)
		}
	}
	format, change := changing("GMT/BST")
	s, e := book.Abbr(format, 1, "-")
	change()
	if s != "BST" || e != api.OK {
		t.Errorf("Abbr of the saving became %q, %d", s, e)
	}
}

// P2: a book stays as it is when the memory of its text changes, and the other
// way round.
func TestBooksShareNoMemory(t *testing.T) {
	for _, text := range []string{example, "link A A", "zone A\nera 0:00 -0:00 A", "rule EU 1981 2100 3 lastSun 1:00u 1:00 S"} {
		s, change := changing(text)
		b, n, e := book.Parse(s)
		before := wantText(b)
		change()
		if before != text || wantText(b) != text || n != 0 || e != api.OK {
			t.Errorf("the book of %q became %v, %d, %d", text, b, n, e)
		}
	}
	b := exampleBook()
	var all []func()
	keep := func(s *string) {
		changed, change := changing(*s)
		*s, all = changed, append(all, change)
	}
	for i := range b.Rules {
		keep(&b.Rules[i].Name)
		keep(&b.Rules[i].Letter)
	}
	for i := range b.Zones {
		keep(&b.Zones[i].Name)
		for k := range b.Zones[i].Eras {
			keep(&b.Zones[i].Eras[k].Rules)
			keep(&b.Zones[i].Eras[k].Format)
		}
	}
	for i := range b.Links {
		keep(&b.Links[i].Name)
		keep(&b.Links[i].To)
	}
	s, e := book.Text(b)
	for _, change := range all {
		change()
	}
	if s != example || e != api.OK {
		t.Errorf("the text became %q, %d", s, e)
	}
}

// roomy returns a copy of a list with room behind it, which is filled with
// marks, and all of the memory.
func roomy[T any](list []T, mark T) (short, all []T) {
	all = slices.Clone(list)
	for range 5 {
		all = append(all, mark)
	}
	return all[:len(list)], all
}

// P2: Check and Text leave a book as it is, and the room behind its lists.
func TestArgumentsStay(t *testing.T) {
	markRule, markEra, markLink := api.Rule{Name: "mark"}, api.Era{Format: "mark"}, api.Link{Name: "mark"}
	for _, change := range flaws() {
		for _, flawed := range []bool{false, true} {
			b := exampleBook()
			if flawed {
				change.change(&b)
			}
			want := copyOf(b)
			var rules, allRules = roomy(b.Rules, markRule)
			var links, allLinks = roomy(b.Links, markLink)
			var zones, allZones = roomy(b.Zones, api.Zone{Name: "mark"})
			var allEras [][]api.Era
			for i := range zones {
				eras, all := roomy(zones[i].Eras, markEra)
				zones[i].Eras, allEras = eras, append(allEras, all)
			}
			b = api.Book{Rules: rules, Zones: zones, Links: links}
			book.Check(b)
			book.Text(b)
			whole := sameBook(b, want)
			for i := range 5 {
				whole = whole && allRules[len(rules)+i] == markRule && allLinks[len(links)+i] == markLink && allZones[len(zones)+i].Name == "mark"
				for k, all := range allEras {
					whole = whole && all[len(want.Zones[k].Eras)+i] == markEra
				}
			}
			if !whole {
				t.Errorf("%s: the book was changed", change.field)
			}
		}
	}
}

// P2: the lists of a parsed book share no memory with each other, with those
// of another one or with anything that is kept, up to their capacities.
func TestResultsAreNew(t *testing.T) {
	text := wantText(api.Book{Rules: manyRules(7), Zones: manyZones(9, 5), Links: manyLinks(11)})
	first, _, _ := book.Parse(text)
	second, _, _ := book.Parse(text)
	want := copyOf(first)
	spoil := func(b api.Book) {
		clear(b.Rules[:cap(b.Rules)])
		clear(b.Links[:cap(b.Links)])
		for i := range b.Zones {
			clear(b.Zones[i].Eras[:cap(b.Zones[i].Eras)])
		}
		clear(b.Zones[:cap(b.Zones)])
	}
	spoil(first)
	if third, n, e := book.Parse(text); !sameBook(second, want) || !sameBook(third, want) || n != 0 || e != api.OK {
		t.Errorf("other books became %v and %v, %d, %d", second, third, n, e)
	}
	for i := range second.Zones {
		b, _, _ := book.Parse(text)
		eras := b.Zones[i].Eras
		clear(eras[:cap(eras)])
		b.Zones[i].Eras = want.Zones[i].Eras
		if !sameBook(b, want) {
			t.Errorf("the eras of zone %d share memory", i)
		}
	}
}

type answers struct {
	abbr, text         string
	again              string
	line               int
	e1, e2, e3, e4, e5 api.Errno
}

// ask asks about a book, a good one or not.
func ask(i int, list []flaw) (a answers) {
	b := exampleBook()
	if i%2 == 1 {
		list[i/2%len(list)].change(&b)
	} else {
		b.Zones[2].Eras[0].Offset = i
	}
	era := b.Zones[i%len(b.Zones)].Eras
	if len(era) > 0 {
		a.abbr, a.e1 = book.Abbr(era[0].Format, i%12000, b.Rules[i%4].Letter)
	}
	a.e2 = book.Check(b)
	a.text, a.e3 = book.Text(b)
	cut := len(a.text) - len(a.text)*(i%5)/7
	parsed, n, e := book.Parse(a.text[:cut])
	a.line, a.e4 = n, e
	a.again, a.e5 = book.Text(parsed)
	return a
}

// P2: a result does not depend on which calls were made before, failed ones
// included.
func TestNoStateIsKept(t *testing.T) {
	const calls = 1000
	list := flaws()
	var upward []answers
	for i := range calls {
		upward = append(upward, ask(i, list))
	}
	for i := calls - 1; i >= 0; i-- {
		book.Parse("zone A\nera 0:00 -0:00 A 2000-01-01T00:00:00")
		if got := ask(i, list); got != upward[i] {
			t.Fatalf("call %d: %v, and before %v", i, got, upward[i])
		}
	}
}

// P2: calls from several goroutines do not disturb each other.
func TestCallsAtTheSameTime(t *testing.T) {
	const workers = 8
	failed := make(chan string, workers)
	shared := exampleBook()
	for w := range workers {
		go func() {
			for i := range 200 {
				b := with(func(b *api.Book) { b.Zones[1].Name, b.Links[2].To = "W"+strconv.Itoa(w), "W"+strconv.Itoa(w) })
				b.Zones[0].Eras[0].Offset = i
				text, e1 := book.Text(b)
				back, n, e2 := book.Parse(text)
				if text != wantText(b) || !sameBook(back, b) || n != 0 || e1 != api.OK || e2 != api.OK || book.Check(shared) != api.OK {
					failed <- text
					return
				}
			}
			failed <- ""
		}()
	}
	for range workers {
		if s := <-failed; s != "" {
			t.Errorf("%.300s: wrong results", s)
		}
	}
}
