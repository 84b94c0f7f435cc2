package book_test

import (
	"fmt"
	"math"
	"regexp"
	"slices"
	"strconv"
	"strings"
	"testing"
	"time"

	"timeball/api"
	"timeball/book"
	"timeball/rule"
)

// The document's numbers, written out, so that a wrong constant is noticed.
const (
	maxRules, maxZones, maxEras, maxLinks = 40, 20, 700, 20
	maxOffset, maxSave, maxSpan           = 64800, 10800, 604800
	maxTime                               = 1 << 40
	firstTime, lastTime                   = -11676096000, 13569465599 // 1600-01-01T00:00:00 and 2399-12-31T23:59:59
	maxText                               = 60000
	stampLayout                           = "2006-01-02T15:04:05"
)

// example is a text with everything that a book may contain.
const example = "rule EU 1981 2100 3 lastSun 1:00u 1:00 S\n" +
	"rule EU 1996 2100 10 lastSun 1:00u 0:00 -\n" +
	"rule US 2007 2100 3 Sun>=8 2:00 1:00 D\n" +
	"rule US 2007 2100 11 Sun>=1 2:00 0:00 S\n" +
	"zone Europe/Berlin\n" +
	"era 0:53:28 -0:00 LMT 1893-03-31T23:06:32\n" +
	"era 1:00 -1:00 CE%T 1980-01-01T00:00:00\n" +
	"era 1:00 EU CE%T\n" +
	"zone America/New_York\n" +
	"era -4:56:02 -0:00 LMT 1883-11-18T17:00:00\n" +
	"era -5:00 US E%T 2030-01-01T00:00:00\n" +
	"era 0:00 EU GMT/BST\n" +
	"zone UTC\n" +
	"era 0:00 -0:00 UTC\n" +
	"link Berlin Europe/Berlin\n" +
	"link B Berlin\n" +
	"link NY America/New_York"

// exampleBook returns the book with this text.
func exampleBook() api.Book {
	return api.Book{
		Rules: []api.Rule{
			{Name: "EU", From: 1981, To: 2100, Month: 3, On: api.Day{Kind: 2}, At: 3600, By: 2, Save: 3600, Letter: "S"},
			{Name: "EU", From: 1996, To: 2100, Month: 10, On: api.Day{Kind: 2}, At: 3600, By: 2, Letter: "-"},
			{Name: "US", From: 2007, To: 2100, Month: 3, On: api.Day{Kind: 3, N: 8}, At: 7200, Save: 3600, Letter: "D"},
			{Name: "US", From: 2007, To: 2100, Month: 11, On: api.Day{Kind: 3, N: 1}, At: 7200, Letter: "S"},
		},
		Zones: []api.Zone{
			{Name: "Europe/Berlin", Eras: []api.Era{
				{Offset: 3208, Format: "LMT", Until: -2422054408},
				{Offset: 3600, Save: 3600, Format: "CE%T", Until: 315532800},
				{Offset: 3600, Rules: "EU", Format: "CE%T"},
			}},
			{Name: "America/New_York", Eras: []api.Era{
				{Offset: -17762, Format: "LMT", Until: -2717650800},
				{Offset: -18000, Rules: "US", Format: "E%T", Until: 1893456000},
				{Rules: "EU", Format: "GMT/BST"},
			}},
			{Name: "UTC", Eras: []api.Era{{Format: "UTC"}}},
		},
		Links: []api.Link{{Name: "Berlin", To: "Europe/Berlin"}, {Name: "B", To: "Berlin"}, {Name: "NY", To: "America/New_York"}},
	}
}

// with returns the example's book after a change.
func with(change func(b *api.Book)) api.Book {
	b := exampleBook()
	change(&b)
	return b
}

// zoneOf returns a zone with one era.
func zoneOf(name string) api.Zone {
	return api.Zone{Name: name, Eras: []api.Era{{Format: "A"}}}
}

// copyOf returns a book that shares no memory with b.
func copyOf(b api.Book) api.Book {
	c := api.Book{Rules: slices.Clone(b.Rules), Zones: slices.Clone(b.Zones), Links: slices.Clone(b.Links)}
	for i := range c.Zones {
		c.Zones[i].Eras = slices.Clone(c.Zones[i].Eras)
	}
	return c
}

func sameBook(a, b api.Book) bool {
	sameZone := func(a, b api.Zone) bool { return a.Name == b.Name && slices.Equal(a.Eras, b.Eras) }
	return slices.Equal(a.Rules, b.Rules) && slices.EqualFunc(a.Zones, b.Zones, sameZone) && slices.Equal(a.Links, b.Links)
}

// show returns the beginning of a book.
func show(b api.Book) string { return fmt.Sprintf("%.300s", fmt.Sprint(b)) }

// wantSpan is the format of durations, told in another way than the program
// tells it.
func wantSpan(n int) string {
	sign := ""
	if n < 0 {
		sign, n = "-", -n
	}
	if n%60 == 0 {
		return fmt.Sprintf("%s%d:%02d", sign, n/3600, n/60%60)
	}
	return fmt.Sprintf("%s%d:%02d:%02d", sign, n/3600, n/60%60, n%60)
}

func wantStamp(n int) string { return time.Unix(int64(n), 0).UTC().Format(stampLayout) }

// wantText is P12's format, told in another way than the package tells it.
func wantText(b api.Book) string {
	var out strings.Builder
	for _, r := range b.Rules {
		text, _ := rule.Text(r)
		fmt.Fprintf(&out, "%s\n", text)
	}
	for _, z := range b.Zones {
		fmt.Fprintf(&out, "zone %s\n", z.Name)
		for i, era := range z.Eras {
			saving := era.Rules
			if len(saving) == 0 {
				saving = "-" + wantSpan(era.Save)
			}
			fmt.Fprintf(&out, "era %s %s %s", wantSpan(era.Offset), saving, era.Format)
			if i+1 < len(z.Eras) {
				fmt.Fprintf(&out, " %s", wantStamp(era.Until))
			}
			fmt.Fprintln(&out)
		}
	}
	for _, k := range b.Links {
		fmt.Fprintf(&out, "link %s %s\n", k.Name, k.To)
	}
	return strings.TrimSuffix(out.String(), "\n")
}

// The forms of the lines other than rules, in which only the ranges of numbers
// are left open.
const (
	nameForm  = `[a-zA-Z][a-zA-Z0-9_/-]{0,19}`
	spanForm  = `(-?)(0|[1-9][0-9]{0,2}):([0-5][0-9])(?::([0-5][1-9]|[1-5]0))?`
	stampForm = `[0-9]{4}-[0-9]{2}-[0-9]{2}T[0-9]{2}:[0-9]{2}:[0-9]{2}`
)

var (
	zoneForm = regexp.MustCompile(`\Azone ([^ ]*)\z`)
	eraForm  = regexp.MustCompile(`\Aera (` + spanForm + `) (?:(` + nameForm + `)|-(` + spanForm + `)) ([^ ]*)(?: (` + stampForm + `))?\z`)
	linkForm = regexp.MustCompile(`\Alink ([^ ]*) ([^ ]*)\z`)
	spanOnly = regexp.MustCompile(`\A` + spanForm + `\z`)
)

// The orders of the kinds of lines: R for a rule, Z for a zone, U for an era
// with an Until, E for one without, and L for a link.
var (
	orderSoFar = regexp.MustCompile(`\AR*(ZU*E)*(ZU*|L*)\z`)
	orderAtEnd = regexp.MustCompile(`\AR*(ZU*E)*L*\z`)
)

func readSpan(s string) (int, bool) {
	parts := spanOnly.FindStringSubmatch(s)
	if parts == nil {
		return 0, false
	}
	n := 0
	for i, unit := range []int{3600, 60, 1} {
		part, _ := strconv.Atoi(parts[2+i]) // 0 for an empty part
		n += part * unit
	}
	if parts[1] == "-" {
		return -n, n > 0 && n <= maxSpan
	}
	return n, n <= maxSpan
}

func readStamp(s string) (int, bool) {
	at, err := time.Parse(stampLayout, s)
	return int(at.Unix()), err == nil && at.Year() >= 1600 && at.Year() <= 2399
}

// readEra returns an era and whether it has an Until, or false at last.
func readEra(line string) (era api.Era, hasUntil, good bool) {
	parts := eraForm.FindStringSubmatch(line)
	if parts == nil {
		return api.Era{}, false, false
	}
	era.Offset, good = readSpan(parts[1])
	era.Rules, era.Format = parts[6], parts[12]
	if era.Rules == "" {
		save, ok := readSpan(parts[7])
		era.Save, good = save, good && ok
	}
	if parts[13] != "" {
		until, ok := readStamp(parts[13])
		era.Until, good = until, good && ok
	}
	return era, parts[13] != "", good
}

// addLine adds a line to a book and returns its kind, or a question mark.
func addLine(b *api.Book, line string) string {
	if r, e := rule.Parse(line); e == api.OK {
		b.Rules = append(b.Rules, r)
		return "R"
	}
	if parts := zoneForm.FindStringSubmatch(line); parts != nil {
		b.Zones = append(b.Zones, api.Zone{Name: parts[1]})
		return "Z"
	}
	if parts := linkForm.FindStringSubmatch(line); parts != nil {
		b.Links = append(b.Links, api.Link{Name: parts[1], To: parts[2]})
		return "L"
	}
	era, hasUntil, good := readEra(line)
	if !good {
		return "?"
	}
	if len(b.Zones) > 0 {
		zone := &b.Zones[len(b.Zones)-1]
		zone.Eras = append(zone.Eras, era)
	}
	if hasUntil {
		return "U"
	}
	return "E"
}

// wantParse is P12's Parse, told in another way than the package tells it: by
// forms of the lines and of their order.
func wantParse(s string) (api.Book, int, api.Errno) {
	if len(s) > maxText {
		return api.Book{}, 0, api.ErrLarge
	}
	var b api.Book
	kinds := ""
	lines := strings.Split(s, "\n")
	if s == "" {
		lines = nil
	}
	for i, line := range lines {
		kinds += addLine(&b, line)
		if !orderSoFar.MatchString(kinds) {
			return api.Book{}, i + 1, api.ErrSyntax
		}
	}
	if !orderAtEnd.MatchString(kinds) {
		return api.Book{}, len(lines) + 1, api.ErrSyntax
	}
	if e := book.Check(b); e != api.OK {
		return api.Book{}, 0, e
	}
	return b, 0, api.OK
}

// checkGood checks that a book is accepted, and its text, both ways.
func checkGood(t *testing.T, b api.Book) {
	t.Helper()
	if e := book.Check(b); e != api.OK {
		t.Errorf("Check(%s) = %d, want OK", show(b), e)
	}
	s := wantText(b)
	if got, e := book.Text(b); got != s || e != api.OK {
		t.Errorf("Text(%s) = %.300q, %d, want %.300q", show(b), got, e, s)
	}
	if len(s) > maxText {
		checkNoBook(t, s, 0, api.ErrLarge)
		return
	}
	if got, n, e := book.Parse(s); !sameBook(got, b) || n != 0 || e != api.OK {
		t.Errorf("Parse(%.300q) = %s, %d, %d, want %s", s, show(got), n, e, show(b))
	}
}

// checkBad checks that a book is rejected.
func checkBad(t *testing.T, b api.Book, want api.Errno) {
	t.Helper()
	if e := book.Check(b); e != want {
		t.Errorf("Check(%s) = %d, want %d", show(b), e, want)
	}
	if s, e := book.Text(b); s != "" || e != want {
		t.Errorf("Text(%s) = %.300q, %d, want an empty text and error %d", show(b), s, e, want)
	}
}

// checkNoBook checks that a text is rejected.
func checkNoBook(t *testing.T, s string, line int, want api.Errno) {
	t.Helper()
	if b, n, e := book.Parse(s); !sameBook(b, api.Book{}) || n != line || e != want {
		t.Errorf("Parse(%.300q) = %s, %d, %d, want a zero book, line %d and error %d", s, show(b), n, e, line, want)
	}
}

// checkEither checks that a text is parsed if and only if a book has it, that
// it is then the text of the result, and otherwise the line and the error.
func checkEither(t *testing.T, s string) {
	t.Helper()
	want, line, e := wantParse(s)
	if e != api.OK {
		checkNoBook(t, s, line, e)
		return
	}
	if wantText(want) != s {
		t.Errorf("%.300q should be the text of %s", s, show(want))
	}
	checkGood(t, want)
}

// The example is what it says, in the test's own terms too.
func TestExample(t *testing.T) {
	if wantText(exampleBook()) != example {
		t.Errorf("the example is not the text of its book, but %q", wantText(exampleBook()))
	}
	if b, n, e := wantParse(example); !sameBook(b, exampleBook()) || n != 0 || e != api.OK {
		t.Errorf("the example is parsed to %v, %d, %d", b, n, e)
	}
	checkGood(t, exampleBook())
	checkEither(t, example)
}

// P11, P12: the empty book, and books of only one kind of things.
func TestSmallBooks(t *testing.T) {
	for _, b := range []api.Book{
		{},
		{Rules: []api.Rule{}, Zones: []api.Zone{}, Links: []api.Link{}},
		{Rules: exampleBook().Rules},
		{Rules: exampleBook().Rules[:1]},
		{Zones: exampleBook().Zones[2:]},
		{Zones: []api.Zone{zoneOf("A")}},
		{Zones: []api.Zone{zoneOf("A"), zoneOf("B"), zoneOf("a")}},
		{Zones: []api.Zone{zoneOf("A")}, Links: []api.Link{{Name: "B", To: "A"}}},
		{Links: []api.Link{{Name: "A", To: "A"}}},
		{Links: []api.Link{{Name: "A", To: "B"}, {Name: "B", To: "A"}}},
		{Links: []api.Link{{Name: "A", To: "B"}, {Name: "B", To: "C"}, {Name: "C", To: "C"}}},
		{Rules: exampleBook().Rules, Links: []api.Link{{Name: "EU", To: "EU"}}},
		{Rules: exampleBook().Rules, Zones: []api.Zone{zoneOf("EU")}},
	} {
		checkGood(t, b)
	}
	if s, e := book.Text(api.Book{}); s != "" || e != api.OK {
		t.Errorf("the empty book has the text %q, %d", s, e)
	}
	if b, n, e := book.Parse(""); !sameBook(b, api.Book{}) || n != 0 || e != api.OK {
		t.Errorf("the empty text is parsed to %v, %d, %d", b, n, e)
	}
}

func extremes() []int {
	return []int{math.MinInt, math.MinInt + 1, math.MinInt32, math.MaxInt32, math.MaxInt - 1, math.MaxInt, math.MaxUint32, math.MaxUint32 + 1}
}
