package state_test

import (
	"fmt"
	"strings"
	"testing"
	"time"

	"timeball/api"
	"timeball/book"
	"timeball/state"
	"timeball/turns"
)

// The document's numbers, written out, so that a wrong constant is noticed.
const (
	firstTime = -11676096000 // 1600-01-01T00:00:00
	lastTime  = 13569465599  // 2399-12-31T23:59:59
	maxZones  = 20
	maxEras   = 700
	maxLinks  = 20
	maxOffset = 64800
	maxSave   = 10800
	maxAt     = 604800
	maxYears  = 1500
	hour      = 3600
	dayLength = 86400
)

const stampForm = "2006-01-02T15:04:05"

// example is a text with everything that a book may contain.
const example = "rule EU 1981 2100 3 lastSun 1:00u 1:00 S\n" +
	"rule EU 1996 2100 10 lastSun 1:00u 0:00 -\n" +
	"rule US 2007 2100 3 Sun>=8 2:00 1:00 D\n" +
	"rule US 2007 2100 11 Sun>=1 2:00 0:00 S\n" +
	"rule Bad 2000 2000 4 1 2:00 1:00 S\n" +
	"rule Bad 2000 2000 4 1 3:00 0:00 -\n" +
	"zone Europe/Berlin\n" +
	"era 0:53:28 -0:00 LMT 1893-03-31T23:06:32\n" +
	"era 1:00 -0:00 CET 1940-04-01T01:00:00\n" +
	"era 1:00 -1:00 CET/CEST 1942-11-02T01:00:00\n" +
	"era 1:00 EU CE%T\n" +
	"zone America/New_York\n" +
	"era -5:00 US E%T\n" +
	"zone UTC\n" +
	"era 0:00 -0:00 UTC\n" +
	"zone Mixed\n" +
	"era 1:00 Bad M%T 1999-01-01T00:00:00\n" +
	"era 1:00 EU M%T 2001-01-01T00:00:00\n" +
	"era 2:00 -0:00 MMT\n" +
	"link B Berlin\n" +
	"link Berlin Europe/Berlin\n" +
	"link Self Self\n" +
	"link Hen Egg\n" +
	"link Egg Hen\n" +
	"link Nest Egg"

// bookOf returns the book with a text, which may consist of several parts.
func bookOf(parts ...string) api.Book {
	b, line, e := book.Parse(strings.Join(parts, "\n"))
	if line != 0 || e != api.OK {
		panic(fmt.Sprint("no book: ", parts, line, e))
	}
	return b
}

func exampleBook() api.Book { return bookOf(example) }

// with returns the example's book after a change.
func with(change func(b *api.Book)) api.Book {
	b := exampleBook()
	change(&b)
	return b
}

// timeOf returns the time with a timestamp, by the library's calendar.
func timeOf(stamp string) int {
	moment, err := time.Parse(stampForm, stamp)
	if err != nil {
		panic(err)
	}
	return int(moment.Unix())
}

// standard and summer are types of local time without and with a saving.
func standard(offset int, name string) api.Type { return api.Type{Offset: offset, Name: name} }
func summer(offset int, name string) api.Type {
	return api.Type{Offset: offset, Save: true, Name: name}
}

// show returns the beginning of a value.
func show(x any) string { return fmt.Sprintf("%.600s", fmt.Sprint(x)) }

// checkType checks the type of local time at a time.
func checkType(t *testing.T, b api.Book, name string, at int, want api.Type) {
	t.Helper()
	if x, e := state.At(b, name, at); x != want || e != api.OK {
		t.Errorf("At(%s, %q, %d) = %v, %d, want %v", show(b), name, at, x, e, want)
	}
}

// checkStamps checks the types at the times with some timestamps.
func checkStamps(t *testing.T, b api.Book, name string, want map[string]api.Type) {
	t.Helper()
	for stamp, kind := range want {
		checkType(t, b, name, timeOf(stamp), kind)
	}
}

// checkSince checks that a type applies from a timestamp on, and another one
// until then.
func checkSince(t *testing.T, b api.Book, name, stamp string, before, after api.Type) {
	t.Helper()
	at := timeOf(stamp)
	checkType(t, b, name, at-1, before)
	checkType(t, b, name, at, after)
	checkType(t, b, name, at+1, after)
}

// checkAlways checks that a zone has one type at all times.
func checkAlways(t *testing.T, b api.Book, name string, want api.Type) {
	t.Helper()
	for _, at := range []int{firstTime, firstTime + 1, -1 << 32, -1, 0, 1, 1 << 30, 1 << 32, lastTime - 1, lastTime} {
		checkType(t, b, name, at, want)
	}
}

// checkError checks that there is an error, and nothing beside it.
func checkError(t *testing.T, b api.Book, name string, at int, want api.Errno) {
	t.Helper()
	if x, e := state.At(b, name, at); x != (api.Type{}) || e != want {
		t.Errorf("At(%s, %.40q, %d) = %v, %d, want a zero type and error %d", show(b), name, at, x, e, want)
	}
}

// expected returns what P15 demands for a zone of a good book, told in another
// way than the package tells it: all eras and all transitions are gone through
// from the last one back, and an abbreviation is put together from its parts.
func expected(b api.Book, zone api.Zone, at int) (api.Type, api.Errno) {
	era := zone.Eras[len(zone.Eras)-1]
	for i := len(zone.Eras) - 2; i >= 0; i-- {
		if at < zone.Eras[i].Until {
			era = zone.Eras[i]
		}
	}
	save, letter := era.Save, "-"
	if era.Rules != "" {
		list, e := turns.Of(b, era.Rules, era.Offset)
		if e != api.OK {
			return api.Type{}, e
		}
		hasBegun := false
		for i := len(list) - 1; i >= 0; i-- {
			switch turn := list[i]; {
			case hasBegun:
			case turn.At <= at:
				hasBegun, save, letter = true, turn.Save, turn.Letter
			case turn.Save == 0:
				letter = turn.Letter
			}
		}
	}
	return api.Type{Offset: era.Offset + save, Save: save != 0, Name: abbreviation(era.Format, save, letter)}, api.OK
}

// abbreviation returns what a good format yields.
func abbreviation(format string, save int, letter string) string {
	parts := strings.Split(format, "/")
	if letter == "-" {
		letter = ""
	}
	return strings.ReplaceAll(parts[min(save, len(parts)-1)], "%", letter)
}

// interesting returns the times at and around which a zone may change, and the
// ends of the supported years.
func interesting(b api.Book, zone api.Zone) []int {
	all := []int{firstTime, firstTime + 1, -1, 0, 1, lastTime - 1, lastTime}
	for _, era := range zone.Eras {
		for _, at := range []int{era.Until - 1, era.Until, era.Until + 1} {
			all = append(all, max(firstTime, min(at, lastTime)))
		}
		if era.Rules == "" {
			continue
		}
		list, _ := turns.Of(b, era.Rules, era.Offset)
		for _, turn := range list {
			all = append(all, turn.At-1, turn.At, turn.At+1)
		}
	}
	return all
}

// checkZone checks a zone of a good book, at all times at which it may change
// and at some more, against P15. It returns at how many times there is a type,
// and at how many an error.
func checkZone(t *testing.T, b api.Book, zone api.Zone, more ...int) (good, failed int) {
	t.Helper()
	if e := book.Check(b); e != api.OK {
		t.Fatalf("%s is no book: error %d", show(b), e)
	}
	for _, at := range append(interesting(b, zone), more...) {
		want, wantError := expected(b, zone, at)
		if wantError != api.OK {
			checkError(t, b, zone.Name, at, wantError)
			failed++
			continue
		}
		checkType(t, b, zone.Name, at, want)
		good++
	}
	return good, failed
}

// P15: the example, in so many words: zones of one era and of several, a link
// to a zone, and a link to a link.
func TestExample(t *testing.T) {
	b := exampleBook()
	for _, name := range []string{"Europe/Berlin", "Berlin", "B"} {
		checkStamps(t, b, name, map[string]api.Type{
			"1600-01-01T00:00:00": standard(3208, "LMT"), "1893-03-31T23:06:31": standard(3208, "LMT"),
			"1893-03-31T23:06:32": standard(3600, "CET"), "1940-04-01T00:59:59": standard(3600, "CET"),
			"1940-04-01T01:00:00": summer(7200, "CEST"), "1942-11-02T00:59:59": summer(7200, "CEST"),
			"1942-11-02T01:00:00": standard(3600, "CET"), "1981-03-29T00:59:59": standard(3600, "CET"),
			"1981-03-29T01:00:00": summer(7200, "CEST"), "1996-10-27T00:59:59": summer(7200, "CEST"),
			"1996-10-27T01:00:00": standard(3600, "CET"), "1997-03-30T01:00:00": summer(7200, "CEST"),
			"2026-10-25T00:59:59": summer(7200, "CEST"), "2026-10-25T01:00:00": standard(3600, "CET"),
			"2100-10-31T00:59:59": summer(7200, "CEST"), "2100-10-31T01:00:00": standard(3600, "CET"),
			"2101-07-01T00:00:00": standard(3600, "CET"), "2399-12-31T23:59:59": standard(3600, "CET"),
		})
	}
	checkStamps(t, b, "America/New_York", map[string]api.Type{
		"1600-01-01T00:00:00": standard(-18000, "EST"), "2007-03-11T06:59:59": standard(-18000, "EST"),
		"2007-03-11T07:00:00": summer(-14400, "EDT"), "2007-11-04T05:59:59": summer(-14400, "EDT"),
		"2007-11-04T06:00:00": standard(-18000, "EST"), "2399-12-31T23:59:59": standard(-18000, "EST"),
	})
	checkStamps(t, b, "Mixed", map[string]api.Type{
		"1999-01-01T00:00:00": standard(3600, "MT"), "2000-07-01T00:00:00": summer(7200, "MST"),
		"2000-12-31T23:59:59": standard(3600, "MT"), "2001-01-01T00:00:00": standard(7200, "MMT"),
	})
	checkAlways(t, b, "UTC", standard(0, "UTC"))
	for _, zone := range b.Zones {
		checkZone(t, b, zone)
	}
}

// P15: a name counts, not a position: that of a zone or link among many, of
// names that are much alike, or of a zone with the name of rules.
func TestNames(t *testing.T) {
	b := bookOf("rule EU 2000 2000 3 1 0:00u 0:00 -", "zone EU\nera 1:00 -0:00 A", "zone eu\nera 2:00 EU B", "zone E\nera 3:00 EU C", "link EUR EU\nlink R E\nlink r R\nlink C C\nlink A r")
	for name, want := range map[string]api.Type{
		"EU": standard(3600, "A"), "EUR": standard(3600, "A"), "eu": standard(7200, "B"), "E": standard(10800, "C"), "R": standard(10800, "C"),
		"r": standard(10800, "C"), "A": standard(10800, "C"),
	} {
		checkAlways(t, b, name, want)
	}
	var many api.Book
	for i := range maxZones {
		name := string(rune('A' + i))
		many.Zones = append(many.Zones, api.Zone{Name: name, Eras: []api.Era{{Offset: i, Format: name}}})
		many.Links = append(many.Links, api.Link{Name: "To" + name, To: name})
	}
	// Each second link leads to the one before it.
	for i := 1; i < maxLinks; i += 2 {
		many.Links[i].To = many.Links[i-1].Name
	}
	for i := range maxZones {
		name := string(rune('A' + i))
		checkType(t, many, name, 0, standard(i, name))
		checkType(t, many, "To"+name, 0, standard(i/2*2, string(rune('A'+i/2*2))))
	}
}

// P15: the ends of the supported years, and one second beyond each, whichever
// eras there are.
func TestEndsOfYears(t *testing.T) {
	if timeOf("1600-01-01T00:00:00") != firstTime || timeOf("2399-12-31T23:59:59") != lastTime {
		t.Fatal("the test has wrong ends")
	}
	b := bookOf("rule A 2000 2000 3 1 0:00 1:00 S", "rule A 2001 2001 3 1 0:00 0:30 T",
		"zone One\nera 0:00 -0:00 A", "zone Rules\nera -1:00 A B%",
		"zone Ends\nera 0:00 -0:00 A 1600-01-01T00:00:00\nera 0:00 -0:00 B 1600-01-01T00:00:01\nera 0:00 A C% 2399-12-31T23:59:59\nera 0:00 -0:00 D",
		"link L Ends")
	checkType(t, b, "One", firstTime, standard(0, "A"))
	checkType(t, b, "One", lastTime, standard(0, "A"))
	checkType(t, b, "Rules", firstTime, standard(-3600, "B"))
	checkType(t, b, "Rules", lastTime, summer(-1800, "BT"))
	for _, name := range []string{"Ends", "L"} {
		// Until is greater than no supported time before the first second.
		checkType(t, b, name, firstTime, standard(0, "B"))
		checkType(t, b, name, firstTime+1, standard(0, "C"))
		checkType(t, b, name, lastTime-1, summer(1800, "CT"))
		checkType(t, b, name, lastTime, standard(0, "D"))
	}
	for _, name := range []string{"One", "Rules", "Ends", "L"} {
		checkError(t, b, name, firstTime-1, api.ErrArg)
		checkError(t, b, name, lastTime+1, api.ErrArg)
	}
}
