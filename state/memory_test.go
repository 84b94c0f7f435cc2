package state_test

import (
	"slices"
	"strconv"
	"strings"
	"testing"
	"unsafe"

	"timeball/api"
	"timeball/book"
	"timeball/state"
)

// asked are zones of the example and a link.
var asked = []string{"Europe/Berlin", "B", "America/New_York", "UTC", "Mixed"}

// inTime are times in each era of the example's zones.
var inTime = []int{firstTime, -2000000000, -900000000, -1, 0, 900000000, 949000000, 965000000, 1000000000, 1782864000, lastTime}

// changing returns a string whose bytes become something else when the
// function is called.
func changing(s string) (string, func()) {
	bytes := []byte(s)
	return unsafe.String(unsafe.SliceData(bytes), len(bytes)), func() {
		for i := range bytes {
			bytes[i] = '#'
		}
	}
}

// changingBook returns the example's book, whose strings and lists become
// something else when the function is called.
func changingBook() (api.Book, func()) {
	b := exampleBook()
	var all []func()
	keep := func(list ...*string) {
		for _, s := range list {
			changed, change := changing(*s)
			*s, all = changed, append(all, change)
		}
	}
	for i := range b.Rules {
		keep(&b.Rules[i].Name, &b.Rules[i].Letter)
	}
	for i := range b.Zones {
		keep(&b.Zones[i].Name)
		for k := range b.Zones[i].Eras {
			keep(&b.Zones[i].Eras[k].Rules, &b.Zones[i].Eras[k].Format)
		}
	}
	for i := range b.Links {
		keep(&b.Links[i].Name, &b.Links[i].To)
	}
	return b, func() {
		for _, change := range all {
			change()
		}
		clear(b.Rules)
		for _, z := range b.Zones {
			clear(z.Eras)
		}
		clear(b.Zones)
		clear(b.Links)
	}
}

// P2: a type stays as it is when the memory of the arguments changes, that of
// the abbreviation included.
func TestResultsStay(t *testing.T) {
	for _, name := range asked {
		for _, at := range inTime {
			want, wantError := state.At(exampleBook(), name, at)
			want.Name = strings.Clone(want.Name)
			b, changeBook := changingBook()
			own, changeName := changing(name)
			x, e := state.At(b, own, at)
			changeBook()
			changeName()
			if x != want || e != wantError {
				t.Errorf("the type of %s at %d became %v, %d, want %v, %d", name, at, x, e, want, wantError)
			}
		}
	}
}

// P2: an abbreviation that is a letter alone, or a format, is copied, and no two
// results share it.
func TestAbbreviationsAreNew(t *testing.T) {
	b := bookOf("rule R 2000 2000 4 1 0:00 1:00 Summer", "rule R 2000 2000 10 1 0:00 0:00 Normal", "zone A\nera 0:00 R a% 2001-01-01T00:00:00\nera 0:00 R AB/CD 2002-01-01T00:00:00\nera 0:00 -0:00 Format")
	seen := map[*byte]string{}
	for _, r := range b.Rules {
		seen[unsafe.StringData(r.Letter)] = r.Letter
	}
	for _, era := range b.Zones[0].Eras {
		first := unsafe.StringData(era.Format)
		for i := range era.Format {
			seen[(*byte)(unsafe.Add(unsafe.Pointer(first), i))] = era.Format
		}
	}
	known, calls := len(seen), 0
	for range 3 {
		for _, stamp := range []string{"1999-01-01T00:00:00", "2000-06-01T00:00:00", "2000-11-01T00:00:00", "2001-06-01T00:00:00", "2002-06-01T00:00:00"} {
			x, e := state.At(b, "A", timeOf(stamp))
			if x.Name == "" || e != api.OK {
				t.Fatalf("%s: %v, %d", stamp, x, e)
			}
			seen[unsafe.StringData(x.Name)] = x.Name
			calls++
		}
	}
	if len(seen) != known+calls {
		t.Errorf("%d abbreviations of %d calls", len(seen)-known, calls)
	}
}

// roomy returns a copy of a list with room behind it, which is filled with
// marks, and all of the memory.
func roomy[T any](list []T, mark T) (short, all []T) {
	all = slices.Clone(list)
	for range 5 {
		all = append(all, mark)
	}
	return all[:len(list)], all
}

func sameZone(p, q api.Zone) bool { return p.Name == q.Name && slices.Equal(p.Eras, q.Eras) }

// P2: a book, good or bad, stays as it is, and the room behind its lists.
func TestArgumentsStay(t *testing.T) {
	books := []api.Book{exampleBook(), {}, bookOf(places)}
	for _, flaw := range flaws() {
		books = append(books, with(flaw.change))
	}
	// The transitions of these rules are in another order than the rules.
	backward := exampleBook()
	slices.Reverse(backward.Rules)
	books = append(books, backward)
	mark := api.Rule{Name: "EU", From: 2000, To: 2000, Month: 1, On: api.Day{Kind: 1, N: 1}, Letter: "X"}
	for _, want := range books {
		rules, allRules := roomy(want.Rules, mark)
		links, allLinks := roomy(want.Links, api.Link{Name: "mark"})
		zones, allZones := roomy(want.Zones, api.Zone{Name: "mark"})
		var allEras [][]api.Era
		for i := range zones {
			eras, all := roomy(zones[i].Eras, api.Era{Format: "mark"})
			zones[i].Eras, allEras = eras, append(allEras, all)
		}
		b := api.Book{Rules: rules, Zones: zones, Links: links}
		for _, name := range append(asked, "Self", "", "Nobody", "Pacific/Apia") {
			for _, at := range append(inTime, beyond...) {
				state.At(b, name, at)
			}
		}
		whole := slices.Equal(rules, want.Rules) && slices.Equal(links, want.Links) && slices.EqualFunc(zones, want.Zones, sameZone)
		for i := range 5 {
			whole = whole && allRules[len(rules)+i] == mark && allLinks[len(links)+i] == api.Link{Name: "mark"}
			whole = whole && sameZone(allZones[len(zones)+i], api.Zone{Name: "mark"})
			for k, all := range allEras {
				whole = whole && all[len(want.Zones[k].Eras)+i] == api.Era{Format: "mark"}
			}
		}
		if !whole {
			t.Errorf("%s was changed", show(want))
		}
	}
}

// ask returns the types of a book, a good one or not, as a text.
func ask(i int, list []flaw) string {
	b := exampleBook()
	b.Rules[0].Save, b.Zones[2].Eras[0].Offset = 1+i%maxSave, i
	if i%3 == 2 {
		list[i/3%len(list)].change(&b)
	}
	var out strings.Builder
	for _, name := range append(asked, "Self", "Nobody") {
		for _, at := range []int{firstTime, i * 100000000, 900000000, 965000000, lastTime, lastTime + 1} {
			x, e := state.At(b, name, at)
			out.WriteString(show(x) + " " + strconv.Itoa(int(e)) + ";")
		}
	}
	return out.String()
}

// P2: a result does not depend on which calls were made before, failed ones
// included.
func TestNoStateIsKept(t *testing.T) {
	const calls = 120
	list := flaws()
	var upward []string
	for i := range calls {
		upward = append(upward, ask(i, list))
	}
	for i := calls - 1; i >= 0; i-- {
		if got := ask(i, list); got != upward[i] {
			t.Fatalf("call %d: %s, and before %s", i, show(got), show(upward[i]))
		}
	}
}

// P2: calls from several goroutines do not disturb each other.
func TestCallsAtTheSameTime(t *testing.T) {
	const workers = 8
	failed := make(chan string, workers)
	shared := exampleBook()
	for w := range workers {
		go func() {
			own := exampleBook()
			own.Rules[0].Save = 600 * (w + 1)
			wantOwn, wantShared := summer(3600+600*(w+1), "CEST"), summer(-14400, "EDT")
			for range 100 {
				x, e := state.At(own, "B", 965000000)
				y, e2 := state.At(shared, "America/New_York", 1782864000)
				_, e3 := state.At(shared, "Mixed", 0)
				if x != wantOwn || y != wantShared || e != api.OK || e2 != api.OK || e3 != api.ErrForm {
					failed <- show(x) + show(y)
					return
				}
			}
			failed <- ""
		}()
	}
	for range workers {
		if s := <-failed; s != "" {
			t.Errorf("%s: wrong results", s)
		}
	}
	if text, e := book.Text(shared); text != example || e != api.OK {
		t.Errorf("the shared book became %q, %d", text, e)
	}
}
