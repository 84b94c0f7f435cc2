package rule_test

import (
	"fmt"
	"math"
	"regexp"
	"strconv"
	"strings"
	"testing"
	"time"
	"unsafe"

	"timeball/api"
	"timeball/rule"
)

// The document's numbers, written out, so that a wrong constant is noticed.
const (
	dNumber, dLast, dFrom, dTill = 1, 2, 3, 4
	wall, standard, universal    = 0, 1, 2
	fromYear, toYear             = 1900, 2100
	maxAt, maxSave               = 604800, 10800
	letters                      = "abcdefghijklmnopqrstuvwxyzABCDEFGHIJKLMNOPQRSTUVWXYZ"
	digits                       = "0123456789"
	bytesForRules                = "019aAzZusSwg_/-+:<=>. \t\n\x00\x7f\x80\xff"
)

// lengths are the days of the months of a year that is not a leap year.
func lengths() []int { return []int{31, 28, 31, 30, 31, 30, 31, 31, 30, 31, 30, 31} }

// plain returns a rule that tests change in one place or another.
func plain() api.Rule {
	return api.Rule{
		Name: "EU", From: 1996, To: 2030, Month: 10, On: api.Day{Kind: dLast},
		At: 3600, By: universal, Save: 3600, Letter: "S",
	}
}

// with returns the plain rule after a change.
func with(change func(r *api.Rule)) api.Rule {
	r := plain()
	change(&r)
	return r
}

// allDays returns every day specification.
func allDays() (all []api.Day) {
	for w := range 7 {
		all = append(all, api.Day{Kind: dLast, Weekday: w})
	}
	for n := 1; n <= 31; n++ {
		all = append(all, api.Day{Kind: dNumber, N: n})
		for w := range 7 {
			all = append(all, api.Day{Kind: dFrom, Weekday: w, N: n}, api.Day{Kind: dTill, Weekday: w, N: n})
		}
	}
	return all
}

// wantSpan is the format of durations, told in another way than the package
// tells it.
func wantSpan(n int) string {
	sign := ""
	if n < 0 {
		sign, n = "-", -n
	}
	if n%60 == 0 {
		return fmt.Sprintf("%s%d:%02d", sign, n/3600, n/60%60)
	}
	return fmt.Sprintf("%s%d:%02d:%02d", sign, n/3600, n/60%60, n%60)
}

func wantDay(d api.Day) string {
	name := time.Weekday(d.Weekday).String()[:3]
	switch d.Kind {
	case dNumber:
		return strconv.Itoa(d.N)
	case dLast:
		return "last" + name
	case dFrom:
		return fmt.Sprintf("%s>=%d", name, d.N)
	}
	return fmt.Sprintf("%s<=%d", name, d.N)
}

// wantText is P9's format, told in another way than the package tells it.
func wantText(r api.Rule) string {
	by := map[int]string{standard: "s", universal: "u"}[r.By]
	return fmt.Sprintf("rule %s %d %d %d %s %s%s %s %s",
		r.Name, r.From, r.To, r.Month, wantDay(r.On), wantSpan(r.At), by, wantSpan(r.Save), r.Letter)
}

// The forms of the words, in which only the ranges of numbers are left open.
const (
	nameForm    = `[a-zA-Z][a-zA-Z0-9_/-]{0,19}`
	yearForm    = `([1-9][0-9]{3})`
	monthForm   = `([1-9]|1[0-2])`
	weekdayForm = `(?:Sun|Mon|Tue|Wed|Thu|Fri|Sat)`
	dayForm     = `(?:last` + weekdayForm + `|(?:` + weekdayForm + `[<>]=)?([1-9]|[12][0-9]|3[01]))`
	spanForm    = `(0|[1-9][0-9]*):([0-5][0-9])(?::([0-5][1-9]|[1-5]0))?`
	letterForm  = `[a-zA-Z0-9+-]{1,8}`
)

var ruleForm = regexp.MustCompile(`\Arule ` + nameForm + ` ` + yearForm + ` ` + yearForm + ` ` + monthForm + ` ` + dayForm +
	` (-?)` + spanForm + `[su]? ` + spanForm + ` ` + letterForm + `\z`)

// isRuleText is P9 with P8, told in another way than the package tells it: by
// a form, and by the ranges of the numbers in it.
func isRuleText(s string) bool {
	parts := ruleForm.FindStringSubmatch(s)
	if parts == nil {
		return false
	}
	number := func(i int) int {
		n, _ := strconv.Atoi(parts[i]) // 0 for an empty part
		return n
	}
	seconds := func(i int) int {
		if len(parts[i]) > 3 {
			return math.MaxInt
		}
		return number(i)*3600 + number(i+1)*60 + number(i+2)
	}
	from, to, at, save := number(1), number(2), seconds(6), seconds(9)
	return from >= fromYear && from <= to && to <= toYear &&
		number(4) <= lengths()[number(3)-1] &&
		at <= maxAt && (parts[5] == "" || at > 0) && save <= maxSave
}

func checkGood(t *testing.T, r api.Rule) {
	t.Helper()
	if e := rule.Check(r); e != api.OK {
		t.Errorf("Check(%+v) = %d, want OK", r, e)
	}
	checkText(t, r, wantText(r))
}

func checkBad(t *testing.T, r api.Rule, want api.Errno) {
	t.Helper()
	if e := rule.Check(r); e != want {
		t.Errorf("Check(%.80v) = %d, want %d", r, e, want)
	}
	if s, e := rule.Text(r); s != "" || e != want {
		t.Errorf("Text(%.80v) = %q, %d, want an empty text and error %d", r, s, e, want)
	}
}

func checkText(t *testing.T, r api.Rule, s string) {
	t.Helper()
	if got, e := rule.Text(r); got != s || e != api.OK {
		t.Errorf("Text(%+v) = %q, %d, want %q", r, got, e, s)
	}
	if got, e := rule.Parse(s); got != r || e != api.OK {
		t.Errorf("Parse(%q) = %+v, %d, want %+v", s, got, e, r)
	}
}

func checkNoText(t *testing.T, s string) {
	t.Helper()
	if r, e := rule.Parse(s); r != (api.Rule{}) || e != api.ErrSyntax {
		t.Errorf("Parse(%.80q) = %.80v, %d, want a zero rule and ErrSyntax", s, r, e)
	}
}

// checkEither checks that a text is parsed if and only if a rule has it, and
// that it is then the text of the result.
func checkEither(t *testing.T, s string) {
	t.Helper()
	if !isRuleText(s) {
		checkNoText(t, s)
		return
	}
	r, e := rule.Parse(s)
	if e != api.OK || rule.Check(r) != api.OK || wantText(r) != s {
		t.Errorf("Parse(%q) = %+v, %d, want the rule with this text", s, r, e)
	}
	if text, e := rule.Text(r); text != s || e != api.OK {
		t.Errorf("Text(%+v) = %q, %d, want %q", r, text, e, s)
	}
}

// checkWord checks a string as a name and as a letter: alone and in a rule.
func checkWord(t *testing.T, s string, name, abbr bool) {
	t.Helper()
	if got := rule.IsName(s); got != name {
		t.Errorf("IsName(%.40q) = %v", s, got)
	}
	if got := rule.IsAbbr(s); got != abbr {
		t.Errorf("IsAbbr(%.40q) = %v", s, got)
	}
	named, lettered := with(func(r *api.Rule) { r.Name = s }), with(func(r *api.Rule) { r.Letter = s })
	checkOne := func(r api.Rule, good bool) {
		if good {
			checkGood(t, r)
			return
		}
		checkBad(t, r, api.ErrSyntax)
		checkNoText(t, wantText(r))
	}
	checkOne(named, name)
	checkOne(lettered, abbr)
}

// P8: ordinary names and abbreviations, and strings that are not.
func TestKnownWords(t *testing.T) {
	for _, c := range []struct {
		s          string
		name, abbr bool
	}{
		{"EU", true, true}, {"Europe/Berlin", true, false}, {"Europe/Some_Where-1", true, false}, {"C-Eur", true, true},
		{"a", true, true}, {"Z", true, true}, {"a1", true, true}, {"a_", true, false}, {"a/", true, false}, {"a-", true, true},
		{"a//b", true, false}, {"a__b", true, false}, {"a--b", true, true}, {"rule", true, true}, {"zone", true, true}, {"lastSun", true, true},
		{"-", false, true}, {"+", false, true}, {"0", false, true}, {"9", false, true}, {"1a", false, true}, {"9Z", false, true},
		{"-a", false, true}, {"+a", false, true}, {"+0530", false, true}, {"-03", false, true}, {"--", false, true}, {"+-+-", false, true},
		{"a+", false, true}, {"a+b", false, true}, {"12345678", false, true}, {"++++++++", false, true}, {"--------", false, true},
		{"_", false, false}, {"/", false, false}, {"_a", false, false}, {"/a", false, false}, {"%", false, false}, {"CE%T", false, false},
		{"", false, false}, {" ", false, false}, {"a b", false, false}, {" a", false, false}, {"a ", false, false}, {"a\n", false, false},
		{"a\x00", false, false}, {"\x00", false, false}, {"a.b", false, false}, {"a,b", false, false}, {"a:b", false, false}, {"a~b", false, false},
		{"ä", false, false}, {"aä", false, false}, {"é/a", false, false}, {"\xff", false, false}, {"a\xff", false, false}, {"a\x80", false, false},
		{"Ａ", false, false}, {"а", false, false}, {"a１", false, false}, {"a−b", false, false}, {"\xe1", false, false}, {"\xc1b", false, false},
	} {
		checkWord(t, c.s, c.name, c.abbr)
	}
}

// P8: every byte, alone and at the beginning, in the middle and at the end.
func TestEveryByte(t *testing.T) {
	for c := range 256 {
		s := string([]byte{byte(c)})
		letter := strings.Contains(letters, s)
		inName := strings.Contains(letters+digits+"_/-", s)
		inAbbr := strings.Contains(letters+digits+"+-", s)
		checkWord(t, s, letter, inAbbr)
		checkWord(t, s+"a", letter, inAbbr)
		checkWord(t, "a"+s, inName, inAbbr)
		checkWord(t, "a"+s+"a", inName, inAbbr)
		checkWord(t, "ABCDEFG"+s, inName, inAbbr)
		checkWord(t, s+"BCDEFGH", letter, inAbbr)
		checkWord(t, "A2345678901234567/_"+s, inName, false)
		checkWord(t, s+"2345678901234567/_Z", letter, false)
	}
}

// P8: names of 1, 20 and 21 bytes, abbreviations of 1, 8 and 9 bytes, and all
// lengths between and beyond.
func TestLengthsOfWords(t *testing.T) {
	for n := range 70 {
		for i := range len(letters) {
			checkWord(t, strings.Repeat(letters[i:i+1], n), n >= 1 && n <= 20, n >= 1 && n <= 8)
		}
		for i := range len(digits) {
			checkWord(t, strings.Repeat(digits[i:i+1], n), false, n >= 1 && n <= 8)
		}
	}
	for _, s := range []string{"a", "0", "-", "+", "_", "/", " ", "\x00", "\xff", "ä", "a b"} {
		for _, n := range []int{1 << 8, 1<<8 + 1, 1<<8 + 8, 1<<8 + 20, 1 << 16, 1<<16 + 1, 1<<16 + 20} {
			checkWord(t, strings.Repeat(s, n), false, false)
		}
	}
}

// extremes are numbers near which sums and differences wrap around, or which
// look valid after they lost their upper bits or their sign.
func extremes() []int {
	return []int{
		math.MinInt, math.MinInt + 1, math.MinInt + 10, math.MinInt + 2026, math.MinInt + maxAt,
		math.MaxInt, math.MaxInt - 1, math.MaxInt - 10, math.MaxInt - 2026, math.MaxInt - maxAt,
		math.MinInt32, math.MaxInt32, math.MaxInt32 + 1, 1 << 32, 1<<32 + 1, 1<<32 + 10, 1<<32 + 2026, -1 << 32, -1<<32 + 10,
		1<<32 + 3600, 1 << 62, 1<<62 + 10, -1 << 62, -1<<62 + 10, -maxAt - 1, maxAt + 1, 1 << 40, -1 << 40,
	}
}

// P8: both ends of the numbers, and one beyond each.
func TestEndsOfNumbers(t *testing.T) {
	for _, c := range []struct {
		set         func(r *api.Rule, n int)
		least, most int
	}{
		{func(r *api.Rule, n int) { r.From = n }, 1900, 2030},
		{func(r *api.Rule, n int) { r.From, r.To = n, n }, 1900, 2100},
		{func(r *api.Rule, n int) { r.From, r.To = n, 2100 }, 1900, 2100},
		{func(r *api.Rule, n int) { r.To = n }, 1996, 2100},
		{func(r *api.Rule, n int) { r.From, r.To = 1900, n }, 1900, 2100},
		{func(r *api.Rule, n int) { r.From, r.To = 2100, n }, 2100, 2100},
		{func(r *api.Rule, n int) { r.Month = n }, 1, 12},
		{func(r *api.Rule, n int) { r.At = n }, -604800, 604800},
		{func(r *api.Rule, n int) { r.At, r.By = n, wall }, -604800, 604800},
		{func(r *api.Rule, n int) { r.At, r.By = n, standard }, -604800, 604800},
		{func(r *api.Rule, n int) { r.By = n }, 0, 2},
		{func(r *api.Rule, n int) { r.Save = n }, 0, 10800},
		{func(r *api.Rule, n int) { r.On.Kind, r.On.N = dNumber, n }, 1, 31},
		{func(r *api.Rule, n int) { r.On.Kind, r.On.N = dFrom, n }, 1, 31},
		{func(r *api.Rule, n int) { r.On.Kind, r.On.N = dTill, n }, 1, 31},
		{func(r *api.Rule, n int) { r.On.N = n }, 0, 0},
		{func(r *api.Rule, n int) { r.On.Weekday = n }, 0, 6},
		{func(r *api.Rule, n int) { r.On = api.Day{Kind: dNumber, Weekday: n, N: 5} }, 0, 0},
		{func(r *api.Rule, n int) { r.On = api.Day{Kind: dFrom, Weekday: n, N: 5} }, 0, 6},
		{func(r *api.Rule, n int) { r.On = api.Day{Kind: dTill, Weekday: n, N: 5} }, 0, 6},
		{func(r *api.Rule, n int) { r.On = api.Day{Kind: n, N: 5} }, 3, 4},
		{func(r *api.Rule, n int) { r.On = api.Day{Kind: n} }, 2, 2},
	} {
		to := func(n int) api.Rule { return with(func(r *api.Rule) { c.set(r, n) }) }
		checkGood(t, to(c.least))
		checkGood(t, to(c.most))
		for _, n := range append(extremes(), c.least-1, c.most+1) {
			checkBad(t, to(n), api.ErrArg)
		}
	}
	for _, kind := range []int{-1, 0, 5, 6, 1 << 8, 1<<8 + 2, 1<<32 + 2} {
		for _, n := range []int{0, 1, 5, 31} {
			checkBad(t, with(func(r *api.Rule) { r.On = api.Day{Kind: kind, N: n} }), api.ErrArg)
		}
	}
	checkBad(t, api.Rule{}, api.ErrSyntax)
}

// P8, P9: texts with numbers that are one beyond.
func TestTextsBeyondTheEnds(t *testing.T) {
	for _, s := range []string{
		"rule EU 1899 2030 10 lastSun 1:00u 0:00 -", "rule EU 1899 1899 10 lastSun 1:00u 0:00 -", "rule EU 2101 2101 10 lastSun 1:00u 0:00 -",
		"rule EU 1996 2101 10 lastSun 1:00u 0:00 -", "rule EU 1996 1995 10 lastSun 1:00u 0:00 -", "rule EU 2100 2099 10 lastSun 1:00u 0:00 -",
		"rule EU 1996 2030 0 lastSun 1:00u 0:00 -", "rule EU 1996 2030 13 lastSun 1:00u 0:00 -", "rule EU 1996 2030 -1 lastSun 1:00u 0:00 -",
		"rule EU 1996 2030 10 lastSun 168:00:01 0:00 -", "rule EU 1996 2030 10 lastSun -168:00:01 0:00 -",
		"rule EU 1996 2030 10 lastSun 168:00:01s 0:00 -", "rule EU 1996 2030 10 lastSun -168:00:01u 0:00 -",
		"rule EU 1996 2030 10 lastSun 169:00 0:00 -", "rule EU 1996 2030 10 lastSun 168:01 0:00 -",
		"rule EU 1996 2030 10 lastSun 1:00u 3:00:01 -", "rule EU 1996 2030 10 lastSun 1:00u 3:01 -", "rule EU 1996 2030 10 lastSun 1:00u 4:00 -",
		"rule EU 1996 2030 10 lastSun 1:00u -0:00:01 -", "rule EU 1996 2030 10 lastSun 1:00u -1:00 -",
		"rule EU 1996 2030 10 0 1:00u 0:00 -", "rule EU 1996 2030 10 32 1:00u 0:00 -", "rule EU 1996 2030 10 Sun>=0 1:00u 0:00 -",
		"rule EU 1996 2030 10 Sun>=32 1:00u 0:00 -", "rule EU 1996 2030 10 Sun<=0 1:00u 0:00 -", "rule EU 1996 2030 10 Sun<=32 1:00u 0:00 -",
		"rule EU 1996 1996 2 29 1:00 0:00 -", "rule EU 1996 1996 2 Sun>=29 1:00 0:00 -", "rule EU 1996 1996 2 Sun<=29 1:00 0:00 -",
		"rule EU 2000 2000 4 31 1:00 0:00 -", "rule EU 2000 2000 11 Sat<=31 1:00 0:00 -", "rule EU 2000 2000 6 Mon>=31 1:00 0:00 -",
	} {
		checkNoText(t, s)
	}
}

// P8: every day specification in every month, also in a rule of leap years
// only; N up to the length of the month and not beyond.
func TestDaysInMonths(t *testing.T) {
	for m, length := range lengths() {
		for _, d := range allDays() {
			for by := wall; by <= universal; by++ {
				for _, from := range []int{1996, 2001} {
					r := with(func(r *api.Rule) { r.From, r.To, r.Month, r.On, r.By = from, from, m+1, d, by })
					if d.N <= length {
						checkGood(t, r)
						continue
					}
					checkBad(t, r, api.ErrArg)
					checkNoText(t, wantText(r))
				}
			}
		}
	}
}

// P8: an error of the name or of the letter comes before all others.
func TestOrderOfErrors(t *testing.T) {
	flaws := []func(r *api.Rule){
		func(r *api.Rule) { r.From = 1899 }, func(r *api.Rule) { r.To = 2101 }, func(r *api.Rule) { r.To = 1995 },
		func(r *api.Rule) { r.Month = 0 }, func(r *api.Rule) { r.Month = 13 }, func(r *api.Rule) { r.On.Kind = 0 },
		func(r *api.Rule) { r.On.Weekday = 7 }, func(r *api.Rule) { r.On.N = 32 },
		func(r *api.Rule) { r.Month, r.On = 2, api.Day{Kind: dNumber, N: 29} },
		func(r *api.Rule) { r.At = maxAt + 1 }, func(r *api.Rule) { r.By = 3 }, func(r *api.Rule) { r.By = -1 },
		func(r *api.Rule) { r.Save = -1 }, func(r *api.Rule) { r.Save = maxSave + 1 }, func(r *api.Rule) { r.Month = math.MinInt },
	}
	for _, flaw := range flaws {
		for _, other := range flaws {
			both := with(func(r *api.Rule) { flaw(r); other(r) })
			checkBad(t, both, api.ErrArg)
			for _, word := range []string{"", "1 ", "_", "a b", "ä", "ABCDEFGHIJKLMNOPQRSTU"} {
				named, lettered := both, both
				named.Name, lettered.Letter = word, word
				checkBad(t, named, api.ErrSyntax)
				checkBad(t, lettered, api.ErrSyntax)
			}
		}
	}
}

// P9: known texts, of every kind of day and every clock.
func TestKnownTexts(t *testing.T) {
	for s, r := range map[string]api.Rule{
		"rule EU 1996 2030 10 lastSun 1:00u 0:00 -": {Name: "EU", From: 1996, To: 2030, Month: 10, On: api.Day{Kind: dLast}, At: 3600, By: universal, Letter: "-"},
		"rule EU 1981 2100 3 lastSun 1:00u 1:00 S":  {Name: "EU", From: 1981, To: 2100, Month: 3, On: api.Day{Kind: dLast}, At: 3600, By: universal, Save: 3600, Letter: "S"},
		"rule US 2007 2100 3 Sun>=8 2:00 1:00 D":    {Name: "US", From: 2007, To: 2100, Month: 3, On: api.Day{Kind: dFrom, N: 8}, At: 7200, By: wall, Save: 3600, Letter: "D"},
		"rule A 1900 1900 1 1 0:00s 3:00 +0530":     {Name: "A", From: 1900, To: 1900, Month: 1, On: api.Day{Kind: dNumber, N: 1}, By: standard, Save: 10800, Letter: "+0530"},
		"rule Zion 2005 2012 4 Fri<=1 -22:30:05 0:20:01 ABCDEFGH": {Name: "Zion", From: 2005, To: 2012, Month: 4,
			On: api.Day{Kind: dTill, Weekday: 5, N: 1}, At: -81005, By: wall, Save: 1201, Letter: "ABCDEFGH"},
		"rule abcdefghijklmnopqrst 2100 2100 12 Sat>=31 168:00 0:00:01 0": {Name: "abcdefghijklmnopqrst", From: 2100, To: 2100, Month: 12,
			On: api.Day{Kind: dFrom, Weekday: 6, N: 31}, At: 604800, By: wall, Save: 1, Letter: "0"},
		"rule x/y_z-9 1900 2100 2 28 -168:00s 2:59:59 --": {Name: "x/y_z-9", From: 1900, To: 2100, Month: 2,
			On: api.Day{Kind: dNumber, N: 28}, At: -604800, By: standard, Save: 10799, Letter: "--"},
		"rule rule 1950 1950 9 Wed<=30 -0:00:01u 1:30 rule": {Name: "rule", From: 1950, To: 1950, Month: 9,
			On: api.Day{Kind: dTill, Weekday: 3, N: 30}, At: -1, By: universal, Save: 5400, Letter: "rule"},
	} {
		checkText(t, r, s)
		if !isRuleText(s) {
			t.Errorf("%q should be a text", s)
		}
	}
}

// P9: all years, all durations and both signs of the time, by every clock.
func TestEveryNumber(t *testing.T) {
	for from := fromYear; from <= toYear; from++ {
		for to := from; to <= toYear; to++ {
			checkGood(t, with(func(r *api.Rule) { r.From, r.To, r.By = from, to, to%3 }))
		}
	}
	for save := 0; save <= maxSave; save++ {
		checkGood(t, with(func(r *api.Rule) { r.Save, r.By = save, save%3 }))
	}
	// A prime step passes through all minutes and seconds.
	for at := -maxAt; at <= maxAt; at += 11 {
		for by := wall; by <= universal; by++ {
			checkGood(t, with(func(r *api.Rule) { r.At, r.By = at, by }))
		}
	}
}

// replaced returns the example's words with another one at a position.
func replaced(i int, word string) string {
	words := strings.Split("rule EU 1996 2030 10 Sun>=8 1:00u 0:30 S", " ")
	words[i] = word
	return strings.Join(words, " ")
}

// P9: words that are missing, additional or empty, other or repeated
// separators, and blanks at the ends.
func TestWordsAndSeparators(t *testing.T) {
	words := strings.Split("rule EU 1996 2030 10 Sun>=8 1:00u 0:30 S", " ")
	checkEither(t, strings.Join(words, " "))
	for i := range len(words) + 1 {
		checkNoText(t, strings.Join(words[:i], " ")+strings.Repeat(" ", min(i, 1)))
		before, behind := append([]string{}, words[:i]...), words[i:]
		for _, word := range append([]string{"", " ", "-", "S", "0:30", "#", "# comment"}, words...) {
			checkNoText(t, strings.Join(append(append(append([]string{}, before...), word), behind...), " "))
		}
		if i == len(words) {
			continue
		}
		checkNoText(t, strings.Join(words[:i], " "))
		checkNoText(t, strings.Join(words[i+1:], " "))
		checkNoText(t, strings.Join(append(before, words[i+1:]...), " "))
		checkNoText(t, replaced(i, ""))
		for _, gap := range []string{"", "  ", "   ", "\t", " \t", "\t ", "\n", "\r", "\v", "\f", "\x00", "\u00a0", "\u2003", ",", ", ", "_", "+", "%20"} {
			if i > 0 {
				checkNoText(t, strings.Join(words[:i], " ")+gap+strings.Join(words[i:], " "))
			}
		}
	}
	for _, blank := range []string{" ", "  ", "\t", "\n", "\r\n", "\r", "\v", "\f", "\x00", "\u00a0", "\ufeff"} {
		checkNoText(t, blank+strings.Join(words, " "))
		checkNoText(t, strings.Join(words, " ")+blank)
		checkNoText(t, strings.Join(words, blank+" "))
		checkNoText(t, blank)
	}
	for n := range 20 {
		checkNoText(t, strings.Repeat(" ", n))
	}
}

// P9: words that no rule has, at their places.
func TestBadWords(t *testing.T) {
	for i, list := range [][]string{
		{"Rule", "RULE", "rules", "rul", "r", "R", "zone", "link", "ru1e", "rule:", "\"rule\"", "EU", "rule\x00", "\xffrule", "-", "0"},
		{"1", "1EU", "_EU", "/EU", "-EU", "+EU", "-", "+", "E+U", "E.U", "EÜ", "ABCDEFGHIJKLMNOPQRSTU", "EU\x00", "%s"},
		{"01996", "+1996", "-1996", "996", "19960", "1996.", "1,996", "1_996", "0x7CC", "1996u", "MCMXCVI", "only", "min", "1996\x00", "１９９６", "18446744073709553612"},
		{"02030", "+2030", "-2030", "203", "20300", "2030.0", "2_030", "0x7EE", "2030s", "only", "max", "-", "o", "1995", "4294969326", "18446744073709553646"},
		{"010", "+10", "-10", "0", "00", "1.0", "1_0", "0xA", "Oct", "oct", "October", "X", "13", "100", "10.", "18446744073709551626", "4294967306"},
		{"sun>=8", "Sun>=08", "Sun>=+8", "Sun>=-8", "Sun=>8", "Sun>8", "Sun>=", ">=8", "08", "+8", "-8", "last", "lastsun", "LastSun", "lastSunday", "Sunday>=8", "32", "Sun>=8u", "firstSun"},
		{"1:00w", "1:00g", "1:00z", "1:00U", "1:00S", "1:00us", "1:00su", "1:00uu", "1:00ss", "u1:00", "s1:00", "u", "s", "-", "-u", "1:0u", "1u", "1:00:00u", "01:00u", "+1:00u", "--1:00u",
			"-0:00", "-0:00u", "0:60", "1:00:60s", "1:00-", "1:00:s", "1:u", ":00u", "1:00 u", "1.00u", "24", "1:00u\x00", "1:00\xff", "168:00:01u", "-168:00:01", "4294968:00"},
		{"0:30u", "0:30s", "0:30w", "00:30", "+0:30", "-0:30", "-0:00", "0:30:00", "0:3", "30", "0", "0:60", "3:00:01", "3:01", "10:00", "0:30:", ":30", "", "0.5", "1", "-", "0:30\x00"},
		{"_", "/", "A/B", "A_B", "ABCDEFGHI", "%s", "Ä", "S.", "S:", "\"\"", "S\x00", "\xff", "S\n", "*", "#", "123456789", "+12345678"},
	} {
		for _, word := range list {
			checkNoText(t, replaced(i, word))
		}
	}
}

// P1, P9: empty and very long texts, and very long words.
func TestLongTexts(t *testing.T) {
	checkNoText(t, "")
	for _, s := range []string{" ", "a", "0", "-", "rule", "rule ", "u", "1:00", "Sun", "\x00", "\xff"} {
		long := strings.Repeat(s, 1<<16)
		checkNoText(t, long)
		text := replaced(0, "rule")
		checkNoText(t, text+long)
		checkNoText(t, text+" "+long)
		checkNoText(t, long+text)
		checkNoText(t, long+" "+text)
		for i := range 9 {
			checkNoText(t, replaced(i, long))
			checkNoText(t, replaced(i, strings.Split(text, " ")[i]+long))
			checkNoText(t, replaced(i, long+strings.Split(text, " ")[i]))
		}
	}
}

// P9: every combination of a few words, good and bad, at each place.
func TestCombinationsOfWords(t *testing.T) {
	lists := [][]string{
		{"rule", "Rule"},
		{"EU", "a/b_c-9", "1a", ""},
		{"1900", "2030", "1899", "01900"},
		{"1900", "2030", "2100", "2101"},
		{"2", "12", "13", "02"},
		{"lastSun", "28", "Mon>=29", "Sat<=31", "0"},
		{"0:00", "-1:00s", "168:00u", "1:00w"},
		{"0:00", "3:00", "3:01"},
		{"-", "+05", "A_B"},
	}
	var grow func(words []string)
	grow = func(words []string) {
		if len(words) == len(lists) {
			checkEither(t, strings.Join(words, " "))
			return
		}
		for _, word := range lists[len(words)] {
			grow(append(words[:len(words):len(words)], word))
		}
	}
	grow(nil)
}

// P9: what one changed byte makes of a text is parsed if and only if a rule
// has it.
func TestTextsLikeRules(t *testing.T) {
	for _, s := range []string{
		"rule EU 1996 2030 10 lastSun 1:00u 0:00 -", "rule US 2007 2100 3 Sun>=8 2:00 1:00 D", "rule A 1900 1900 1 1 0:00s 3:00 +0530",
		"rule Zion 2005 2012 4 Fri<=1 -22:30:05 0:20:01 ABCDEFGH", "rule abcdefghijklmnopqrst 2100 2100 12 Sat>=31 168:00 0:00:01 0",
		"rule x/y_z-9 1900 2100 2 28 -168:00s 2:59:59 --", "rule rule 1950 1950 9 Wed<=30 -0:00:01u 1:30 rule",
		"rule B 1999 2000 11 30 -10:00u 0:10 9", "rule C1 1909 2099 12 Thu>=9 100:09:10s 1:00:09 A+1",
	} {
		if !isRuleText(s) {
			t.Errorf("%q should be a text", s)
		}
		changes(s, bytesForRules, func(changed string) { checkEither(t, changed) })
	}
}

// changes yields the text with one byte left out, put in, replaced, doubled or
// swapped with the next one, and the text cut off there.
func changes(s, bytes string, yield func(string)) {
	for i := range len(s) + 1 {
		for j := range len(bytes) {
			yield(s[:i] + bytes[j:j+1] + s[i:])
			if i < len(s) {
				yield(s[:i] + bytes[j:j+1] + s[i+1:])
			}
		}
		if i < len(s) {
			yield(s[:i] + s[i+1:])
			yield(s[:i+1] + s[i:])
			yield(s[:i])
			yield(s[i:])
		}
		if i+1 < len(s) {
			yield(s[:i] + s[i+1:i+2] + s[i:i+1] + s[i+2:])
		}
	}
}

// P2: results stay as they are when the memory of the argument changes.
func TestNoMemoryIsShared(t *testing.T) {
	const example = "rule Europe/Berlin 1996 2030 10 lastSun 1:00u 0:00 CEST"
	bytes := []byte(example)
	r, e := rule.Parse(unsafe.String(&bytes[0], len(bytes)))
	if e != api.OK || r.Name != "Europe/Berlin" || r.Letter != "CEST" {
		t.Fatalf("Parse(%q) = %v, %d", example, r, e)
	}
	for i := range bytes {
		bytes[i] = '#'
	}
	if r.Name != "Europe/Berlin" || r.Letter != "CEST" {
		t.Errorf("the rule became %v", r)
	}
	name := []byte(r.Name)
	r.Name = unsafe.String(&name[0], len(name))
	s, e := rule.Text(r)
	name[0] = '#'
	if s != example || e != api.OK {
		t.Errorf("the text became %q, %d", s, e)
	}
}

type answers struct {
	name, abbr bool
	text       string
	r          api.Rule
	e1, e2, e3 api.Errno
}

// ask asks about a rule, a good one or not.
func ask(i int) (a answers) {
	r := api.Rule{
		Name: strings.Repeat("n", i%22), From: 1899 + i%203, To: 1990 + i%112, Month: i % 14,
		On: api.Day{Kind: 1 + i%4, Weekday: i / 3 % 7, N: i / 5 % 32},
		At: i * 7 % maxAt, By: i % 3, Save: i % (maxSave + 9), Letter: strings.Repeat("L", i/2%10),
	}
	if i%2 == 0 {
		r.On = api.Day{Kind: dLast, Weekday: i % 7}
	}
	a.name, a.abbr = rule.IsName(r.Name), rule.IsAbbr(r.Letter)
	a.e1 = rule.Check(r)
	a.text, a.e2 = rule.Text(r)
	a.r, a.e3 = rule.Parse(a.text)
	return a
}

// P2: a result does not depend on which calls were made before, failed ones
// included.
func TestNoStateIsKept(t *testing.T) {
	const calls = 50000
	var upward []answers
	good := 0
	for i := range calls {
		upward = append(upward, ask(i))
		if upward[i].e1 == api.OK {
			good++
		}
	}
	if good < calls/20 {
		t.Errorf("only %d of %d rules are good", good, calls)
	}
	for i := calls - 1; i >= 0; i-- {
		rule.Parse("rule EU 1996 2030 10 lastSun 1:00u 0:00 ")
		if got := ask(i); got != upward[i] {
			t.Fatalf("call %d: %v, and before %v", i, got, upward[i])
		}
	}
}

// P2: calls from several goroutines do not disturb each other.
func TestCallsAtTheSameTime(t *testing.T) {
	const workers = 8
	failed := make(chan string, workers)
	for w := range workers {
		go func() {
			for at := -maxAt + w; at <= maxAt; at += 101 * workers {
				r := with(func(r *api.Rule) { r.Name, r.At, r.By = "N"+strconv.Itoa(at), at, w%3 })
				text, e1 := rule.Text(r)
				back, e2 := rule.Parse(text)
				if text != wantText(r) || back != r || e1 != api.OK || e2 != api.OK {
					failed <- text
					return
				}
			}
			failed <- ""
		}()
	}
	for range workers {
		if s := <-failed; s != "" {
			t.Errorf("%s: wrong results", s)
		}
	}
}
