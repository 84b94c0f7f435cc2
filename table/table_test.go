package table_test

import (
	"fmt"
	"math"
	"math/rand"
	"strings"
	"testing"
	"time"

	"timeball/api"
	"timeball/book"
	"timeball/table"
)

// The document's numbers, written out, so that a wrong constant is noticed.
const (
	firstTime  = -11676096000 // 1600-01-01T00:00:00
	lastTime   = 13569465599  // 2399-12-31T23:59:59
	maxZones   = 20
	maxEras    = 700
	maxLinks   = 20
	maxOffset  = 64800
	mostOffset = 75600 // of a type
	maxSave    = 10800
	maxAt      = 604800
	maxYears   = 1500
	maxTypes   = 250
	maxChanges = 1000
	hour       = 3600
	dayLength  = 86400
)

const stampForm = "2006-01-02T15:04:05"

// bookOf returns the book with a text, which may consist of several parts.
func bookOf(parts ...string) api.Book {
	b, line, e := book.Parse(strings.Join(parts, "\n"))
	if line != 0 || e != api.OK {
		panic(fmt.Sprint("no book: ", parts, line, e))
	}
	return b
}

// timeOf returns the time with a timestamp, by the library's calendar.
func timeOf(stamp string) int {
	moment, err := time.Parse(stampForm, stamp)
	if err != nil {
		panic(err)
	}
	return int(moment.Unix())
}

// standard and summer are types of local time without and with a saving.
func standard(offset int, name string) api.Type { return api.Type{Offset: offset, Name: name} }
func summer(offset int, name string) api.Type {
	return api.Type{Offset: offset, Save: true, Name: name}
}

// show returns the beginning of a value.
func show(x any) string { return fmt.Sprintf("%.600s", fmt.Sprint(x)) }

// simple returns a good table of three types and four changes.
func simple() api.Table {
	return api.Table{
		Types:   []api.Type{standard(3208, "LMT"), standard(3600, "CET"), summer(7200, "CEST")},
		Changes: []api.Change{{At: -100, Type: 1}, {At: 0, Type: 2}, {At: 100, Type: 1}, {At: 200, Type: 0}},
	}
}

// around are times at the ends of all ranges and beyond them.
var around = []int{math.MinInt, math.MinInt + 1, -1 << 62, -1<<40 - 1, -1 << 40, -1<<40 + 1, firstTime - 1, firstTime, -1, 0, 1,
	lastTime, lastTime + 1, 1<<40 - 1, 1 << 40, 1<<40 + 1, 1 << 62, math.MaxInt - 1, math.MaxInt}

// checkAt checks the type that applies at a time.
func checkAt(t *testing.T, x api.Table, at int, want api.Type) {
	t.Helper()
	if kind, e := table.At(x, at); kind != want || e != api.OK {
		t.Errorf("At(%s, %d) = %v, %d, want %v", show(x), at, kind, e, want)
	}
}

// checkGood checks that there is no error, and which types apply: before and
// behind each change and at it, and at the ends of all ranges.
func checkGood(t *testing.T, x api.Table) {
	t.Helper()
	if e := table.Check(x); e != api.OK {
		t.Errorf("Check(%s) = %d, want no error", show(x), e)
		return
	}
	for _, at := range around {
		checkAt(t, x, at, typeAt(x, at))
	}
	for i, change := range x.Changes {
		if i > 20 && i < len(x.Changes)-20 && i%31 > 0 {
			continue
		}
		for _, at := range []int{change.At - 1, change.At, change.At + 1} {
			checkAt(t, x, at, typeAt(x, at))
		}
	}
}

// checkBad checks the error of a table, and that there is nothing beside it.
func checkBad(t *testing.T, x api.Table, want api.Errno) {
	t.Helper()
	if e := table.Check(x); e != want {
		t.Errorf("Check(%s) = %d, want %d", show(x), e, want)
	}
	for _, at := range []int{math.MinInt, -1, 0, 150, 1 << 40, math.MaxInt} {
		if kind, e := table.At(x, at); kind != (api.Type{}) || e != want {
			t.Errorf("At(%s, %d) = %v, %d, want a zero type and error %d", show(x), at, kind, e, want)
		}
	}
}

// typeAt returns the type of a good table that P16 demands: all changes are gone
// through, from the first one on.
func typeAt(x api.Table, at int) api.Type {
	number := x.First
	for _, change := range x.Changes {
		if change.At <= at {
			number = change.Type
		}
	}
	return x.Types[number]
}

// P16: At, in so many words: before the first change, one second before each
// change, at it, one second after it, and after the last one.
func TestAt(t *testing.T) {
	x := simple()
	lmt, cet, cest := x.Types[0], x.Types[1], x.Types[2]
	for at, want := range map[int]api.Type{
		math.MinInt: lmt, -1 << 40: lmt, -102: lmt, -101: lmt, -100: cet, -99: cet, -50: cet, -2: cet, -1: cet, 0: cest, 1: cest, 2: cest, 99: cest,
		100: cet, 101: cet, 199: cet, 200: lmt, 201: lmt, 1 << 40: lmt, math.MaxInt: lmt,
	} {
		checkAt(t, x, at, want)
	}
	checkGood(t, x)
}

// P16: without changes, First applies at all times.
func TestNoChanges(t *testing.T) {
	one := api.Table{Types: []api.Type{standard(0, "UTC")}}
	for _, changes := range [][]api.Change{nil, {}} {
		one.Changes = changes
		checkGood(t, one)
		for _, at := range around {
			checkAt(t, one, at, standard(0, "UTC"))
		}
	}
	several := simple()
	several.Changes = nil
	for several.First = range several.Types {
		checkGood(t, several)
		for _, at := range around {
			checkAt(t, several, at, several.Types[several.First])
		}
	}
}

// P16: one change, from each type to each type, at the ends of the range too.
func TestOneChange(t *testing.T) {
	x := simple()
	for _, at := range []int{-1 << 40, -1<<40 + 1, firstTime, -1, 0, 1, lastTime, 1<<40 - 1, 1 << 40} {
		for x.First = range x.Types {
			for number, kind := range x.Types {
				x.Changes = []api.Change{{At: at, Type: number}}
				checkGood(t, x)
				checkAt(t, x, at-1, x.Types[x.First])
				checkAt(t, x, at, kind)
				checkAt(t, x, at+1, kind)
				checkAt(t, x, math.MinInt, x.Types[x.First])
				checkAt(t, x, math.MaxInt, kind)
			}
		}
	}
}

// P16: changes to the type that applies already, types that are alike, and types
// that are never used, are good.
func TestIdleChanges(t *testing.T) {
	x := simple()
	x.First = 1
	x.Changes = []api.Change{{At: 5, Type: 1}, {At: 6, Type: 1}, {At: 7, Type: 2}, {At: 8, Type: 2}, {At: 9, Type: 1}, {At: 10, Type: 1}}
	checkGood(t, x)
	for at, want := range map[int]int{4: 1, 5: 1, 6: 1, 7: 2, 8: 2, 9: 1, 10: 1, 11: 1} {
		checkAt(t, x, at, x.Types[want])
	}
	x.Types[2] = x.Types[1]
	checkGood(t, x)
	checkAt(t, x, 7, x.Types[1])
}

// P16: types that differ in one field only are told apart.
func TestTypesMuchAlike(t *testing.T) {
	x := api.Table{Types: []api.Type{standard(3600, "A"), summer(3600, "A"), standard(3601, "A"), standard(-3600, "A"), standard(3600, "a"), standard(3600, "AA"), standard(0, "A")}}
	for i := range x.Types {
		x.Changes = append(x.Changes, api.Change{At: i * i, Type: len(x.Types) - 1 - i})
	}
	checkGood(t, x)
	for i, change := range x.Changes {
		checkAt(t, x, change.At, x.Types[len(x.Types)-1-i])
	}
}

// P16: as many types and changes as there may be, and tables of many sizes.
func TestManyChanges(t *testing.T) {
	for _, count := range []int{2, 3, 4, 7, 8, 9, 100, maxChanges - 1, maxChanges} {
		for _, step := range []int{1, 2, 1 << 30} {
			x := api.Table{Types: manyTypes(maxTypes), First: count % maxTypes}
			for i := range count {
				x.Changes = append(x.Changes, api.Change{At: (i - count/2) * step, Type: i * 7 % maxTypes})
			}
			checkGood(t, x)
		}
	}
}

// manyTypes returns a number of types, no two of which are alike.
func manyTypes(count int) (list []api.Type) {
	for i := range count {
		list = append(list, api.Type{Offset: i - count/2, Save: i%3 == 0, Name: fmt.Sprint("T", i%100)})
	}
	return list
}

// P16: many tables, with times at random.
func TestMixedTables(t *testing.T) {
	random := rand.New(rand.NewSource(16))
	for range 2000 {
		x := api.Table{Types: manyTypes(1 + random.Intn(6))}
		x.First = random.Intn(len(x.Types))
		at := -random.Intn(1 << 40)
		for range random.Intn(12) {
			at += 1 + random.Intn(1<<uint(random.Intn(36)))
			x.Changes = append(x.Changes, api.Change{At: at, Type: random.Intn(len(x.Types))})
		}
		checkGood(t, x)
		for range 20 {
			at := random.Intn(1<<41) - 1<<40
			checkAt(t, x, at, typeAt(x, at))
		}
	}
}
