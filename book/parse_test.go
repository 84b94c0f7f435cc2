package book_test

import (
	"slices"
	"strconv"
	"strings"
	"testing"

	"timeball/api"
	"timeball/book"
	"timeball/rule"
)

// P12: texts that are no text of a book, with the line and the error in so
// many words.
func TestKnownErrors(t *testing.T) {
	const era, eraUntil, aRule = "era 1:00 -0:00 CET", "era 1:00 -0:00 CET 2000-01-01T00:00:00", "rule EU 1996 2030 10 lastSun 1:00u 0:00 -"
	for _, c := range []struct {
		s    string
		line int
		e    api.Errno
	}{
		{"what", 1, api.ErrSyntax}, {" ", 1, api.ErrSyntax}, {"\n", 1, api.ErrSyntax}, {"\n\n\n", 1, api.ErrSyntax}, {"#", 1, api.ErrSyntax},
		{"zone A", 2, api.ErrSyntax}, {"zone A\nzone B", 2, api.ErrSyntax}, {"zone A\n", 2, api.ErrSyntax}, {"zone A\n" + eraUntil, 3, api.ErrSyntax},
		{"zone A\n" + eraUntil + "\n", 3, api.ErrSyntax}, {"zone A\n" + eraUntil + "\nzone B", 3, api.ErrSyntax}, {"zone A\n" + eraUntil + "\nlink B A", 3, api.ErrSyntax},
		{"zone A\n" + era + "\n", 3, api.ErrSyntax}, {"zone A\n" + era + "\n\n", 3, api.ErrSyntax}, {"zone A\n" + era + "\n" + era, 3, api.ErrSyntax},
		{"zone A\n" + era + "\n" + eraUntil, 3, api.ErrSyntax}, {"zone A\n" + era + "\nzone B", 4, api.ErrSyntax}, {"zone A\n\n" + era, 2, api.ErrSyntax},
		{"zone A\nlink B A", 2, api.ErrSyntax}, {"zone A\n" + aRule, 2, api.ErrSyntax}, {"zone A\n" + era + "\n" + aRule, 3, api.ErrSyntax},
		{"\nzone A\n" + era, 1, api.ErrSyntax}, {era, 1, api.ErrSyntax}, {eraUntil, 1, api.ErrSyntax}, {aRule + "\n" + era, 2, api.ErrSyntax},
		{aRule + "\n", 2, api.ErrSyntax}, {"link A A\n", 2, api.ErrSyntax}, {"link A A\nzone B\n" + era, 2, api.ErrSyntax}, {"link A A\n" + aRule, 2, api.ErrSyntax},
		{"link A A\n" + era, 2, api.ErrSyntax}, {aRule + "\nlink A A\n" + aRule, 3, api.ErrSyntax}, {"zone A\n" + era + "\nlink B A\nzone C\n" + era, 4, api.ErrSyntax},
		{"rule EU 1899 2030 10 lastSun 1:00u 0:00 -", 1, api.ErrSyntax}, {aRule + "\nrule EU 1996 2030 2 29 1:00u 0:00 -", 2, api.ErrSyntax},
		{"rule 1 1996 2030 10 lastSun 1:00u 0:00 -", 1, api.ErrSyntax}, {"rule", 1, api.ErrSyntax}, {"rule ", 1, api.ErrSyntax},
		{"zone", 1, api.ErrSyntax}, {"zone  ", 1, api.ErrSyntax}, {"zone A B", 1, api.ErrSyntax}, {"zone A ", 1, api.ErrSyntax}, {" zone A", 1, api.ErrSyntax},
		{"link", 1, api.ErrSyntax}, {"link A", 1, api.ErrSyntax}, {"link A A A", 1, api.ErrSyntax}, {"link A A ", 1, api.ErrSyntax}, {"link ", 1, api.ErrSyntax},
		{"zone A\nera", 2, api.ErrSyntax}, {"zone A\nera 1:00", 2, api.ErrSyntax}, {"zone A\nera 1:00 -0:00", 2, api.ErrSyntax}, {"zone A\n" + era + " ", 2, api.ErrSyntax},
		{"zone A\n" + eraUntil + " ", 2, api.ErrSyntax}, {"zone A\n" + eraUntil + " X\n" + era, 2, api.ErrSyntax}, {"zone A\nera 1:00  CET", 2, api.ErrSyntax},
		{"zone A\nera  -0:00 CET", 2, api.ErrSyntax}, {"zone A\nera 1:00 - CET", 2, api.ErrSyntax}, {"zone A\nera 1:00 0:00 CET", 2, api.ErrSyntax},
		{"zone A\nera 1:00 -0 CET", 2, api.ErrSyntax}, {"zone A\nera 1 -0:00 CET", 2, api.ErrSyntax}, {"zone A\nera 1:00 --0:00 CET", 2, api.ErrSyntax},
		{"zone A\nera 1:00 _EU CET", 2, api.ErrSyntax}, {"zone A\nera 1:00 ABCDEFGHIJKLMNOPQRSTU CET", 2, api.ErrSyntax}, {"zone A\nera 168:00:01 -0:00 CET", 2, api.ErrSyntax},
		{"zone A\nera 1:00 -168:00:01 CET", 2, api.ErrSyntax}, {"zone A\nera 1:00 -0:00 CET 2400-01-01T00:00:00", 2, api.ErrSyntax},
		{"zone A\nera 1:00 -0:00 CET 1599-12-31T23:59:59", 2, api.ErrSyntax}, {"zone A\nera 1:00 -0:00 CET 2000-01-01", 2, api.ErrSyntax},
		// From here on, the lines are well-formed, and Check rejects the book.
		{"zone \n" + era, 0, api.ErrSyntax}, {"zone 1\n" + era, 0, api.ErrSyntax}, {"zone A\r\n" + era, 0, api.ErrSyntax}, {"zone \xff\x00\n" + era, 0, api.ErrSyntax},
		{"zone A\n" + era + "\r", 0, api.ErrSyntax}, {"link  ", 0, api.ErrSyntax}, {"link A ", 0, api.ErrSyntax}, {"link  A", 0, api.ErrSyntax}, {"link A A\r", 0, api.ErrSyntax},
		{"zone A\nera 1:00 -0:00 ", 0, api.ErrSyntax}, {"zone A\nera 1:00 -0:00  2000-01-01T00:00:00\n" + era, 0, api.ErrSyntax},
		{"zone A\nera 1:00 -0:00 2000-01-01T00:00:00", 0, api.ErrSyntax}, {"zone A\nera 1:00 -0:00 ABCDEFGHIJKLMN", 0, api.ErrSyntax},
		{"zone A\nera 1:00 -0:00 %", 0, api.ErrForm}, {"zone A\nera 1:00 EU CET", 0, api.ErrNone}, {"link A B", 0, api.ErrNone},
		{"zone A\nera 18:00:01 -0:00 CET", 0, api.ErrArg}, {"zone A\nera -18:00:01 -0:00 CET", 0, api.ErrArg}, {"zone A\nera 168:00 -0:00 CET", 0, api.ErrArg},
		{"zone A\nera 1:00 -3:00:01 CET", 0, api.ErrArg}, {"zone A\nera 1:00 --0:00:01 CET", 0, api.ErrArg}, {"zone A\nera 1:00 --168:00 CET", 0, api.ErrArg},
		{"zone A\n" + eraUntil + "\n" + eraUntil + "\n" + era, 0, api.ErrForm}, {"zone A\n" + era + "\nzone A\n" + era, 0, api.ErrTwice},
		{"zone A\n" + era + "\nlink A A", 0, api.ErrTwice}, {"link A A\nlink A A", 0, api.ErrTwice},
		{"rule EU 1996 2030 10 lastSun 1:00u 0:00 SS\nzone A\nera 1:00 EU ABCDEFG%", 0, api.ErrLarge},
		// An erroneous line comes before the errors of Check, and the first one counts.
		{"link A B\nwhat", 2, api.ErrSyntax}, {"zone 1\n" + era + "\nzone B", 4, api.ErrSyntax}, {"zone A\nera 20:00 EU CET\nlink", 3, api.ErrSyntax},
		{"what\nwhat", 1, api.ErrSyntax}, {"zone A\nwhat\nzone", 2, api.ErrSyntax},
	} {
		checkNoBook(t, c.s, c.line, c.e)
		checkEither(t, c.s)
	}
}

// P12: texts in so many words.
func TestKnownTexts(t *testing.T) {
	zone := func(eras ...api.Era) api.Book { return api.Book{Zones: []api.Zone{{Name: "A", Eras: eras}}} }
	for s, b := range map[string]api.Book{
		"zone A\nera 0:00 -0:00 A":                                           zone(api.Era{Format: "A"}),
		"zone A\nera -0:00:01 -0:00:01 -":                                    zone(api.Era{Offset: -1, Save: 1, Format: "-"}),
		"zone A\nera 18:00 -3:00 +18/+21":                                    zone(api.Era{Offset: 64800, Save: 10800, Format: "+18/+21"}),
		"zone A\nera -18:00 -2:59:59 ABCDEFGH%":                              zone(api.Era{Offset: -64800, Save: 10799, Format: "ABCDEFGH%"}),
		"zone A\nera 5:30 -0:20 IST 1970-01-01T00:00:00\nera 5:30 -0:00 IST": zone(api.Era{Offset: 19800, Save: 1200, Format: "IST"}, api.Era{Offset: 19800, Format: "IST"}),
		"zone A\nera 0:00 -0:00 A 1600-01-01T00:00:00\nera 0:00 -0:00 B 2399-12-31T23:59:59\nera 0:00 -0:00 C": zone(
			api.Era{Format: "A", Until: firstTime}, api.Era{Format: "B", Until: lastTime}, api.Era{Format: "C"}),
		"link A B\nlink B A": {Links: []api.Link{{Name: "A", To: "B"}, {Name: "B", To: "A"}}},
		"link link link":     {Links: []api.Link{{Name: "link", To: "link"}}},
		"rule era 1996 2030 10 lastSun 1:00u 0:00 zone\nzone zone\nera 0:00 era era": {
			Rules: []api.Rule{{Name: "era", From: 1996, To: 2030, Month: 10, On: api.Day{Kind: 2}, At: 3600, By: 2, Letter: "zone"}},
			Zones: []api.Zone{{Name: "zone", Eras: []api.Era{{Rules: "era", Format: "era"}}}},
		},
	} {
		if wantText(b) != s {
			t.Errorf("%q should be the text of %v", s, b)
		}
		checkGood(t, b)
		checkEither(t, s)
	}
}

// P12: all orders of a few lines of every kind, of which all others are good.
func TestOrdersOfLines(t *testing.T) {
	const most = 7
	var grow func(lines []string)
	grow = func(lines []string) {
		text := strings.Join(lines, "\n")
		checkEither(t, text)
		// Two lines after an erroneous one are enough.
		if _, line, _ := wantParse(text); len(lines) == most || line > 0 && line+2 <= len(lines) {
			return
		}
		n := strconv.Itoa(len(lines))
		for _, line := range []string{
			"rule R" + n + " 1996 2030 10 lastSun 1:00u 0:00 -",
			"zone Z" + n,
			"era " + n + ":00 -0:00 F" + n + " 200" + n + "-01-01T00:00:00",
			"era " + n + ":00 -0:00 F" + n,
			"link L" + n + " L" + n,
			"",
			"line " + n,
		} {
			grow(append(lines[:len(lines):len(lines)], line))
		}
	}
	grow(nil)
}

// inserted returns lines with a further one at a position.
func inserted(lines []string, i int, line string) string {
	return strings.Join(slices.Insert(slices.Clone(lines), i, line), "\n")
}

// P12: the number of the line, wherever it is among many lines.
func TestNumbersOfLines(t *testing.T) {
	lines := strings.Split(example, "\n")
	for i := range len(lines) + 1 {
		for _, line := range []string{"", " ", "what", "era", "zone", "link", "rule", "rule EU 1899 2030 10 lastSun 1:00u 0:00 -", "era 1:00 -0:00"} {
			checkNoBook(t, inserted(lines, i, line), i+1, api.ErrSyntax)
		}
		checkEither(t, strings.Join(lines[:i], "\n"))
		checkEither(t, strings.Join(lines[:i], "\n")+"\n")
		checkEither(t, strings.Join(lines[i:], "\n"))
		// Each line at each place, and none.
		for _, line := range lines {
			checkEither(t, inserted(lines, i, line))
		}
		if i < len(lines) {
			checkEither(t, strings.Join(slices.Delete(slices.Clone(lines), i, i+1), "\n"))
		}
	}
	// An incomplete zone behind many lines.
	text := wantText(api.Book{Zones: manyZones(maxZones, 50)})
	const count = 51 * maxZones
	checkNoBook(t, text+"\nzone Last", count+2, api.ErrSyntax)
	checkNoBook(t, text+"\nzone Last\nera 0:00 -0:00 A 2000-01-01T00:00:00", count+3, api.ErrSyntax)
	checkNoBook(t, text+"\n", count+1, api.ErrSyntax)
}

// inLine returns the example with a line replaced.
func inLine(i int, line string) string {
	lines := strings.Split(example, "\n")
	lines[i] = line
	return strings.Join(lines, "\n")
}

// P12: words that are missing, additional or empty, other or repeated
// separators, and blanks at the ends, in every line.
func TestWordsAndSeparators(t *testing.T) {
	for i, line := range strings.Split(example, "\n") {
		words := strings.Split(line, " ")
		for k := range len(words) + 1 {
			before, behind := strings.Join(words[:k], " "), strings.Join(words[k:], " ")
			for _, word := range []string{"", " ", "-", "A", "0:00", "-0:00", "EU", "#", "2000-01-01T00:00:00"} {
				checkEither(t, inLine(i, strings.Trim(before+"\t"+word+"\t"+behind, "\t")))
				checkEither(t, inLine(i, strings.TrimPrefix(before+" "+word+" "+behind, " ")))
				checkEither(t, inLine(i, strings.TrimSuffix(before+" "+word+" "+behind, " ")))
			}
			for _, gap := range []string{"", "  ", "   ", "\t", " \t", "\r", "\v", "\f", "\x00", "\u00a0", "\u2003", ",", "\n", "\n\n", " \n"} {
				checkEither(t, inLine(i, before+gap+behind))
			}
			checkEither(t, inLine(i, before))
			checkEither(t, inLine(i, behind))
			if k < len(words) {
				others := append(append([]string{}, words[:k]...), words[k+1:]...)
				checkEither(t, inLine(i, strings.Join(others, " ")))
				empty := append([]string{}, words...)
				empty[k] = ""
				checkEither(t, inLine(i, strings.Join(empty, " ")))
			}
		}
	}
}

// P12: what words a line may have at its places.
func TestWordsOfLines(t *testing.T) {
	all := []string{
		"", "-", "--", "+", "0:00", "-0:00", "--0:00", "-0:00:00", "-0:01", "--0:01", "-3:00", "-3:00:01", "---1:00", "+1:00", "1:00", "01:00", "1:0", "1", "-1", "18:00", "18:00:01",
		"-18:00", "-18:00:01", "168:00", "168:00:01", "-168:00", "-168:00:01", "--168:00", "--168:00:01", "1:60", "1:00:60", "1:00u", "1:00:00", "1000:00", "18446744073709551616:00",
		"EU", "US", "eu", "Nobody", "A", "ABCDEFGHIJKLMNOPQRST", "ABCDEFGHIJKLMNOPQRSTU", "1A", "_A", "/A", "A/B", "A_B", "A-B", "A+B", "%", "A%", "A%B", "%%", "A%/B", "A/", "ABCDEFGH", "ABCDEFGH%",
		"ABCDEFGHI", "ABCDEFGH/IJK", "ABCDEFGH/IJKL", "Europe/Berlin", "Berlin", "UTC", "zone", "era", "link", "rule", "ä", "\xff", "\x00", "\r", "\t", "#", "\"A\"",
		"2000-01-01T00:00:00", "1970-01-01T00:00:00", "1600-01-01T00:00:00", "2399-12-31T23:59:59", "1599-12-31T23:59:59", "2400-01-01T00:00:00", "2000-02-30T00:00:00", "2001-02-29T00:00:00",
		"2000-01-01T24:00:00", "2000-01-01T00:00:60", "2000-01-01", "2000-01-01T00:00", "2000-01-01T00:00:00Z", "2000-01-01t00:00:00", "2000-1-01T00:00:00", "02000-01-01T00:00:00", "-2000-01-01T00:00:00",
	}
	for i, line := range strings.Split(example, "\n") {
		words := strings.Split(line, " ")
		for k, old := range words {
			for _, word := range all {
				words[k] = word
				checkEither(t, inLine(i, strings.Join(words, " ")))
			}
			words[k] = old
		}
		if words[0] == "era" {
			for _, word := range all {
				checkEither(t, inLine(i, strings.Join(words[:4], " ")+" "+word))
			}
		}
	}
}

// P12: every combination of a few words, good and bad, at each place of an era.
func TestErasOfWords(t *testing.T) {
	for _, first := range []string{"era", "Era", ""} {
		for _, offset := range []string{"0:00", "-1:00", "19:00", "169:00", "1", ""} {
			for _, saving := range []string{"EU", "Nobody", "-0:00", "-1:00", "-4:00", "--1:00", "-", "", "1:00", "1"} {
				for _, format := range []string{"A", "A%", "A/B", "%", "ABCDEFGH%", "%%", "", "\x00"} {
					line := strings.Join([]string{first, offset, saving, format}, " ")
					checkEither(t, inLine(7, line))
					for _, until := range []string{"1900-01-01T00:00:00", "1893-03-31T23:06:32", "1599-01-01T00:00:00", "x", ""} {
						checkEither(t, inLine(7, line+" "+until))
						checkEither(t, inLine(6, line+" "+until))
					}
				}
			}
		}
	}
}

// P12: a line that rule.Parse rejects is rejected, and where rules are
// allowed, no other one.
func TestRuleLines(t *testing.T) {
	good := strings.Split(example, "\n")[0]
	for i := range len(good) + 1 {
		for _, s := range []string{"", " ", "0", "-", "a", ":", "\x00"} {
			for _, line := range []string{good[:i] + s + good[i:], good[:i] + s, s + good[i:]} {
				_, e := rule.Parse(line)
				for k := range 4 {
					if e != api.OK {
						checkNoBook(t, inLine(k, line), k+1, api.ErrSyntax)
					} else if _, n, e := book.Parse(inLine(k, line)); n != 0 || e != api.OK && e != api.ErrNone && e != api.ErrLarge {
						t.Errorf("with the line %q: %d, %d", line, n, e)
					}
				}
			}
		}
	}
}

// P12: what one changed byte makes of a text is parsed if and only if a book
// has it.
func TestTextsLikeBooks(t *testing.T) {
	for _, s := range []string{
		example,
		"zone A\nera 5:30 -0:20 I%T 1970-01-01T00:00:00\nera 5:30 -0:00:09 +05/+06\nlink B A\nlink C B",
		"rule EU 2000 2002 3 lastSun 1:00u 1:00 S\nzone A\nera -18:00 EU ABCDEFG% 2399-12-31T23:59:59\nera 18:00 -3:00 -",
		"link A B\nlink B A",
	} {
		if _, _, e := wantParse(s); e != api.OK {
			t.Errorf("%q should be a text", s)
		}
		changes(s, "019aAzZ_/-+:%. \t\r\n\x00\x80\xff", func(changed string) { checkEither(t, changed) })
	}
}

// changes yields the text with one byte left out, put in, replaced, doubled or
// swapped with the next one, and the text cut off there.
func changes(s, bytes string, yield func(string)) {
	for i := range len(s) + 1 {
		for j := range len(bytes) {
			yield(s[:i] + bytes[j:j+1] + s[i:])
			if i < len(s) {
				yield(s[:i] + bytes[j:j+1] + s[i+1:])
			}
		}
		if i < len(s) {
			yield(s[:i] + s[i+1:])
			yield(s[:i+1] + s[i:])
			yield(s[:i])
			yield(s[i:])
		}
		if i+1 < len(s) {
			yield(s[:i] + s[i+1:i+2] + s[i:i+1] + s[i+2:])
		}
	}
}

// longBook returns a good book with a text of n bytes.
func longBook(t *testing.T, n int) api.Book {
	t.Helper()
	b := api.Book{Zones: []api.Zone{zoneOf("A"), zoneOf("B"), zoneOf("C")}}
	const line = len("era 0:00 -0:00 ABCD 1970-01-01T00:00:00\n")
	rest := n - len(wantText(b))
	count, rest := rest/line, rest%line
	for i := range b.Zones {
		var eras []api.Era
		for ; count > 0 && len(eras) < maxEras-1; count-- {
			era := api.Era{Format: "ABCD", Until: len(eras)}
			if rest > 0 {
				era.Format = "ABCDE"
				rest--
			}
			eras = append(eras, era)
		}
		b.Zones[i].Eras = append(eras, b.Zones[i].Eras...)
	}
	if len(wantText(b)) != n {
		t.Fatalf("the text has %d bytes, want %d", len(wantText(b)), n)
	}
	return b
}

// P12: texts up to the limit and beyond it.
func TestLongTexts(t *testing.T) {
	checkGood(t, longBook(t, maxText-1))
	checkGood(t, longBook(t, maxText))
	long := longBook(t, maxText+1)
	if s, e := book.Text(long); s != wantText(long) || e != api.OK {
		t.Errorf("Text of a long book has %d bytes, %d", len(s), e)
	}
	checkNoBook(t, wantText(long), 0, api.ErrLarge)
	checkNoBook(t, wantText(longBook(t, maxText))+"\n", 0, api.ErrLarge)
	text := wantText(longBook(t, maxText-1))
	checkNoBook(t, text+"\n", strings.Count(text, "\n")+2, api.ErrSyntax)
}

// P1, P12: long texts of no book, up to the limit and beyond it.
func TestLongNonsense(t *testing.T) {
	for s, line := range map[string]int{
		" ": 1, "a": 1, "\n": 1, "\x00": 1, "\xff": 1, "-": 1, "0": 1, "#\n": 1, "zone ": 1, "zone": 1, "zone A\n": 2, "era ": 1, "era": 1,
		"link ": 1, "link A": 1, "link": 1, "rule": 1, "rule ": 1, "link A A\n": 6667, "zone A\nera 0:00 -0:00 A\n": 5001,
	} {
		much := strings.Repeat(s, maxText+1)
		checkNoBook(t, much[:maxText], line, api.ErrSyntax)
		checkNoBook(t, much[:maxText+1], 0, api.ErrLarge)
		checkNoBook(t, much, 0, api.ErrLarge)
		checkNoBook(t, much+"\n"+example, 0, api.ErrLarge)
	}
	links := strings.Repeat("link A A\n", 6000)
	checkNoBook(t, links+"link A A", 0, api.ErrLarge)
	checkNoBook(t, links+"link", 6001, api.ErrSyntax)
	checkNoBook(t, links, 6001, api.ErrSyntax)
	checkNoBook(t, "link A A"+strings.Repeat("\n", maxText-8), 2, api.ErrSyntax)
	checkNoBook(t, "zone "+strings.Repeat("A", maxText-5), 2, api.ErrSyntax)
	checkNoBook(t, "link A "+strings.Repeat("A", maxText-7), 0, api.ErrSyntax)
	checkNoBook(t, "link A A"+strings.Repeat(" A", 29996), 1, api.ErrSyntax)
	checkNoBook(t, strings.Repeat("x", 1<<24), 0, api.ErrLarge)
}

// P12: every offset and saving, and times in all parts of the range.
func TestEveryNumber(t *testing.T) {
	var eras []api.Era
	flush := func() {
		if len(eras) > 0 {
			last := len(eras) - 1
			eras[last].Until = 0
			checkGood(t, api.Book{Zones: []api.Zone{{Name: "A", Eras: eras}}})
			eras = nil
		}
	}
	put := func(era api.Era) {
		if eras = append(eras, era); len(eras) == maxEras {
			flush()
		}
	}
	const times = 2*maxOffset + 1
	for i := range times {
		until := firstTime + (lastTime-firstTime)/times*i
		put(api.Era{Offset: i - maxOffset, Save: i % (maxSave + 1), Format: "A%", Until: until})
	}
	flush()
}
