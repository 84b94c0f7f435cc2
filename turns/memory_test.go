package turns_test

import (
	"slices"
	"strconv"
	"strings"
	"testing"
	"unsafe"

	"timeball/api"
	"timeball/book"
	"timeball/turns"
)

// changing returns a string whose bytes become something else when the
// function is called.
func changing(s string) (string, func()) {
	bytes := []byte(s)
	return unsafe.String(unsafe.SliceData(bytes), len(bytes)), func() {
		for i := range bytes {
			bytes[i] = '#'
		}
	}
}

// P2: transitions stay as they are when the memory of the arguments changes,
// that of the letters included.
func TestResultsStay(t *testing.T) {
	for _, name := range []string{"EU", "US", "AN"} {
		want, e := turns.Of(exampleBook(), name, hour)
		if len(want) == 0 || e != api.OK {
			t.Fatalf("%s: %d transitions, error %d", name, len(want), e)
		}
		b := exampleBook()
		asked, changeName := changing(name)
		all := []func(){changeName}
		for i := range b.Rules {
			for _, s := range []*string{&b.Rules[i].Name, &b.Rules[i].Letter} {
				changed, change := changing(*s)
				*s, all = changed, append(all, change)
			}
		}
		list, e := turns.Of(b, asked, hour)
		for _, change := range all {
			change()
		}
		clear(b.Rules)
		clear(b.Zones)
		clear(b.Links)
		if !slices.Equal(list, want) || e != api.OK {
			t.Errorf("%s: the transitions became %s, %d, want %s", name, show(texts(list)), e, show(texts(want)))
		}
	}
}

// P2: no two letters share memory, those of one rule included.
func TestLettersAreNew(t *testing.T) {
	seen := map[*byte]bool{}
	b := exampleBook()
	for _, r := range b.Rules {
		seen[unsafe.StringData(r.Letter)] = true
	}
	known, total := len(seen), 0
	for _, name := range []string{"EU", "US", "AN", "EU"} {
		list, _ := turns.Of(b, name, hour)
		for _, turn := range list {
			seen[unsafe.StringData(turn.Letter)] = true
		}
		total += len(list)
	}
	if len(seen) != known+total || total == 0 {
		t.Errorf("%d letters of %d transitions", len(seen)-known, total)
	}
}

// P2: the book and other results stay as they are when the memory of a result
// changes, up to its capacity.
func TestResultsAreNew(t *testing.T) {
	b := exampleBook()
	first, _ := turns.Of(b, "EU", hour)
	second, _ := turns.Of(b, "EU", hour)
	before := slices.Clone(second)
	first = first[:cap(first)]
	for i := range first {
		first[i] = api.Turn{At: 1, Save: 1, Letter: "spoilt"}
	}
	third, _ := turns.Of(b, "EU", hour)
	if !slices.Equal(second, before) || !slices.Equal(third, before) || len(before) == 0 {
		t.Errorf("other transitions became %s and %s", show(texts(second)), show(texts(third)))
	}
	if text, e := book.Text(b); text != example || e != api.OK {
		t.Errorf("the book became %q, %d", text, e)
	}
}

// roomy returns a copy of a list with room behind it, which is filled with
// marks, and all of the memory.
func roomy[T any](list []T, mark T) (short, all []T) {
	all = slices.Clone(list)
	for range 5 {
		all = append(all, mark)
	}
	return all[:len(list)], all
}

// P2: a book, good or bad, stays as it is, and the room behind its lists.
func TestArgumentsStay(t *testing.T) {
	books := []api.Book{exampleBook(), {}, bookOf(eu...), yearly("EU", maxYears, 9), yearly("EU", maxYears+1, 9)}
	for _, flaw := range flaws() {
		books = append(books, with(flaw.change))
	}
	// The transitions of these rules are in another order than the rules.
	backward := exampleBook()
	slices.Reverse(backward.Rules)
	books = append(books, backward)
	mark := api.Rule{Name: "EU", From: 2000, To: 2000, Month: 1, On: api.Day{Kind: 1, N: 1}, Letter: "X"}
	for _, want := range books {
		rules, allRules := roomy(want.Rules, mark)
		links, allLinks := roomy(want.Links, api.Link{Name: "mark"})
		zones, allZones := roomy(want.Zones, api.Zone{Name: "mark"})
		var allEras [][]api.Era
		for i := range zones {
			eras, all := roomy(zones[i].Eras, api.Era{Format: "mark"})
			zones[i].Eras, allEras = eras, append(allEras, all)
		}
		b := api.Book{Rules: rules, Zones: zones, Links: links}
		for _, name := range []string{"EU", "US", "AN", "Bad", "", "Nobody"} {
			for _, offset := range []int{0, -maxOffset, maxOffset, maxOffset + 1} {
				turns.Of(b, name, offset)
			}
		}
		sameZone := func(p, q api.Zone) bool { return p.Name == q.Name && slices.Equal(p.Eras, q.Eras) }
		whole := slices.Equal(rules, want.Rules) && slices.Equal(links, want.Links) && slices.EqualFunc(zones, want.Zones, sameZone)
		for i := range 5 {
			whole = whole && allRules[len(rules)+i] == mark && allLinks[len(links)+i] == api.Link{Name: "mark"}
			whole = whole && sameZone(allZones[len(zones)+i], api.Zone{Name: "mark"})
			for k, all := range allEras {
				whole = whole && all[len(want.Zones[k].Eras)+i] == api.Era{Format: "mark"}
			}
		}
		if !whole {
			t.Errorf("%s was changed", show(want))
		}
	}
}

// ask returns the transitions of a book, a good one or not, as a text.
func ask(i int, list []flaw) string {
	b := exampleBook()
	b.Rules[1].Save = i % 1000
	if i%3 == 2 {
		list[i/3%len(list)].change(&b)
	}
	var out strings.Builder
	for _, name := range []string{"EU", "US", "AN", "Bad", "Nobody"} {
		turns, e := turns.Of(b, name, i*37%maxOffset)
		out.WriteString(strings.Join(texts(turns), ",") + " " + strconv.Itoa(int(e)) + ";")
	}
	return out.String()
}

// P2: a result does not depend on which calls were made before, failed ones
// included.
func TestNoStateIsKept(t *testing.T) {
	const calls = 300
	list := flaws()
	var upward []string
	for i := range calls {
		upward = append(upward, ask(i, list))
	}
	for i := calls - 1; i >= 0; i-- {
		if got := ask(i, list); got != upward[i] {
			t.Fatalf("call %d: %s, and before %s", i, show(got), show(upward[i]))
		}
	}
}

// P2: calls from several goroutines do not disturb each other.
func TestCallsAtTheSameTime(t *testing.T) {
	const workers = 8
	failed := make(chan string, workers)
	shared := exampleBook()
	for w := range workers {
		go func() {
			own := exampleBook()
			own.Rules[1].Save = 600 * (w + 1)
			wantOwn, wantShared := expected(own, "US", w*hour), expected(shared, "EU", w*hour)
			for range 100 {
				list, e := turns.Of(own, "US", w*hour)
				other, e2 := turns.Of(shared, "EU", w*hour)
				_, e3 := turns.Of(shared, "Bad", 0)
				if !slices.Equal(list, wantOwn) || !slices.Equal(other, wantShared) || e != api.OK || e2 != api.OK || e3 != api.ErrForm {
					failed <- show(texts(list)) + show(texts(other))
					return
				}
			}
			failed <- ""
		}()
	}
	for range workers {
		if s := <-failed; s != "" {
			t.Errorf("%s: wrong results", s)
		}
	}
	if text, e := book.Text(shared); text != example || e != api.OK {
		t.Errorf("the shared book became %q, %d", text, e)
	}
}
