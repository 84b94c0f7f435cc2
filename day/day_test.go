package day_test

import (
	"fmt"
	"math"
	"strings"
	"testing"
	"time"

	"timeball/api"
	"timeball/day"
)

// The document's numbers, written out, so that a wrong constant is noticed.
const (
	dNumber, dLast, dFrom, dTill = 1, 2, 3, 4
	firstYear, lastYear          = 1600, 2399
	firstDay, lastDay            = -135140, 157053
	secondsOfDay                 = 86400
	bytesForDays                 = "0123456789<>=+-. lastSunMoThFri\x00\x7f\x80\xff"
)

const (
	sun = iota
	mon
	tue
	wed
	thu
	fri
	sat
)

// spec is an api.Day that lists may write without the names of its fields.
type spec struct{ Kind, Weekday, N int }

// number returns the day number of a date by the library's calendar, in which
// day 0 is the last day of the preceding month and day 32 may be of the next.
func number(y, m, d int) int {
	return int(time.Date(y, time.Month(m), d, 0, 0, 0, 0, time.UTC).Unix() / secondsOfDay)
}

// lengthOf returns the number of days of a month, by the library's calendar.
func lengthOf(y, m int) int { return number(y, m+1, 1) - number(y, m, 1) }

// weekdayOf returns the weekday of a day number, by the library's calendar.
func weekdayOf(n int) int { return int(time.Unix(int64(n)*secondsOfDay, 0).UTC().Weekday()) }

// allDays returns every day specification.
func allDays() (all []api.Day) {
	for n := 1; n <= 31; n++ {
		all = append(all, api.Day{Kind: dNumber, N: n})
		for w := sun; w <= sat; w++ {
			all = append(all, api.Day{Kind: dFrom, Weekday: w, N: n}, api.Day{Kind: dTill, Weekday: w, N: n})
		}
	}
	for w := sun; w <= sat; w++ {
		all = append(all, api.Day{Kind: dLast, Weekday: w})
	}
	return all
}

// isDay is P6, told in another way than the package tells it.
func isDay(d api.Day) bool {
	for _, good := range allDays() {
		if d == good {
			return true
		}
	}
	return false
}

// wantText is the document's format, told in another way than the package
// tells it.
func wantText(d api.Day) string {
	name := time.Weekday(d.Weekday).String()[:3]
	switch d.Kind {
	case dNumber:
		return fmt.Sprint(d.N)
	case dLast:
		return "last" + name
	case dFrom:
		return fmt.Sprintf("%s>=%d", name, d.N)
	}
	return fmt.Sprintf("%s<=%d", name, d.N)
}

// wantOf walks day by day to the specified day of the month with the given
// first day and length.
func wantOf(first, length, firstWeekday int, d api.Day) (int, api.Errno) {
	if d.N > length {
		return 0, api.ErrNone
	}
	at, step := first+d.N-1, 0
	switch d.Kind {
	case dLast:
		at, step = first+length-1, -1
	case dFrom:
		step = 1
	case dTill:
		step = -1
	}
	for step != 0 && (at-first+firstWeekday+70)%7 != d.Weekday {
		at += step
	}
	if at < firstDay || at > lastDay {
		return 0, api.ErrArg
	}
	return at, api.OK
}

func checkOf(t *testing.T, y, m int, d api.Day, n int) {
	t.Helper()
	if got, e := day.Of(y, m, d); got != n || e != api.OK {
		t.Errorf("Of(%d, %d, %v) = %d, %d, want %d", y, m, d, got, e, n)
	}
}

func checkNotOf(t *testing.T, y, m int, d api.Day, want api.Errno) {
	t.Helper()
	if n, e := day.Of(y, m, d); n != 0 || e != want {
		t.Errorf("Of(%d, %d, %v) = %d, %d, want 0 and error %d", y, m, d, n, e, want)
	}
}

func checkText(t *testing.T, d api.Day, s string) {
	t.Helper()
	if got, e := day.Text(d); got != s || e != api.OK {
		t.Errorf("Text(%v) = %q, %d, want %q", d, got, e, s)
	}
	if got, e := day.Read(s); got != d || e != api.OK {
		t.Errorf("Read(%q) = %v, %d, want %v", s, got, e, d)
	}
}

func checkNoText(t *testing.T, s string) {
	t.Helper()
	if d, e := day.Read(s); d != (api.Day{}) || e != api.ErrSyntax {
		t.Errorf("Read(%.40q) = %v, %d, want a zero day and ErrSyntax", s, d, e)
	}
}

// checkNoDay checks that all functions reject a specification, also for months
// that would be errors of another kind or of a later place in the order.
func checkNoDay(t *testing.T, d api.Day) {
	t.Helper()
	if e := day.Check(d); e != api.ErrArg {
		t.Errorf("Check(%v) = %d, want ErrArg", d, e)
	}
	if s, e := day.Text(d); s != "" || e != api.ErrArg {
		t.Errorf("Text(%v) = %q, %d, want an empty text and ErrArg", d, s, e)
	}
	for _, c := range [][2]int{{2026, 11}, {2026, 2}, {firstYear, 1}, {lastYear, 12}, {firstYear - 1, 2}, {lastYear + 1, 2}, {2026, 0}, {2026, 13}} {
		checkNotOf(t, c[0], c[1], d, api.ErrArg)
	}
}

// extremes are numbers near which sums and differences wrap around, or which
// look valid after they lost their upper bits or their sign.
func extremes() []int {
	return []int{
		math.MinInt, math.MinInt + 1, math.MinInt + 6, math.MinInt + 7, math.MinInt + 31, math.MinInt + 2026,
		math.MaxInt, math.MaxInt - 1, math.MaxInt - 6, math.MaxInt - 7, math.MaxInt - 31, math.MaxInt - 2026,
		math.MinInt32, math.MinInt32 + 1, math.MaxInt32, math.MaxInt32 + 1, math.MaxInt32 + 2,
		1 << 8, 1<<8 + 1, 1<<8 + 3, 1<<16 + 1, 1 << 32, 1<<32 + 1, 1<<32 + 3, 1<<32 + 11, 1<<32 + 2026, -1 << 32, -1<<32 + 3,
		1 << 62, 1<<62 + 1, -1 << 62, -1<<62 + 3, -2026, -31, -12, -7, -4, -3, -2, -1,
	}
}

// P6: every field in and around its range, for every kind and for none.
func TestCheckSmallFields(t *testing.T) {
	good := 0
	for kind := -2; kind <= 8; kind++ {
		for w := -8; w <= 15; w++ {
			for n := -33; n <= 64; n++ {
				d := api.Day{Kind: kind, Weekday: w, N: n}
				if !isDay(d) {
					checkNoDay(t, d)
				} else if e := day.Check(d); e != api.OK {
					t.Errorf("Check(%v) = %d, want OK", d, e)
				} else {
					good++
				}
			}
		}
	}
	if want := 31 + 7 + 2*7*31; good != want {
		t.Errorf("%d specifications are good, want %d", good, want)
	}
}

// P6: both ends of N and of the weekdays, and one beyond each.
func TestCheckEnds(t *testing.T) {
	for _, d := range []spec{
		{dNumber, 0, 1}, {dNumber, 0, 31}, {dLast, 0, 0}, {dLast, 6, 0},
		{dFrom, 0, 1}, {dFrom, 6, 31}, {dFrom, 0, 31}, {dFrom, 6, 1},
		{dTill, 0, 1}, {dTill, 6, 31}, {dTill, 0, 31}, {dTill, 6, 1},
	} {
		if e := day.Check(api.Day(d)); e != api.OK {
			t.Errorf("Check(%v) = %d, want OK", d, e)
		}
	}
	for _, d := range []spec{
		{}, {0, 0, 1}, {5, 0, 1}, {5, 0, 0}, {-1, 0, 1}, {0, 6, 31}, {5, 6, 31},
		{dNumber, 0, 0}, {dNumber, 0, 32}, {dNumber, 0, -1}, {dNumber, 1, 1}, {dNumber, 6, 31}, {dNumber, -1, 1}, {dNumber, 7, 1},
		{dLast, 0, 1}, {dLast, 0, -1}, {dLast, 0, 31}, {dLast, -1, 0}, {dLast, 7, 0}, {dLast, 6, 1}, {dLast, 3, 5},
		{dFrom, 0, 0}, {dFrom, 0, 32}, {dFrom, 0, -1}, {dFrom, -1, 1}, {dFrom, 7, 1}, {dFrom, 6, 0}, {dFrom, 7, 31},
		{dTill, 0, 0}, {dTill, 0, 32}, {dTill, 0, -1}, {dTill, -1, 1}, {dTill, 7, 1}, {dTill, 6, 0}, {dTill, 7, 31},
	} {
		checkNoDay(t, api.Day(d))
	}
}

// P1, P6, P7: the smallest and the largest numbers in each field.
func TestExtremeFields(t *testing.T) {
	for _, x := range extremes() {
		for _, n := range []int{0, 1, 31, x} {
			for _, w := range []int{0, 6, x} {
				if x < dNumber || x > dTill {
					checkNoDay(t, api.Day{Kind: x, Weekday: w, N: n})
				}
			}
		}
		for kind := dNumber; kind <= dTill; kind++ {
			for _, n := range []int{0, 1, 5, 31, x} {
				if x < 0 || x > 6 {
					checkNoDay(t, api.Day{Kind: kind, Weekday: x, N: n})
				}
			}
			for w := sun; w <= sat; w++ {
				if x < 0 || x > 31 {
					checkNoDay(t, api.Day{Kind: kind, Weekday: w, N: x})
				}
			}
		}
	}
}

// P7: known days of every kind and weekday, among them days of the next and of
// the preceding month.
func TestKnownDays(t *testing.T) {
	for _, c := range []struct {
		y, m int
		d    spec
		n    int
	}{
		{1970, 1, spec{dNumber, 0, 1}, 0}, {1970, 1, spec{dNumber, 0, 31}, 30}, {1969, 12, spec{dNumber, 0, 31}, -1},
		{2026, 11, spec{dLast, sun, 0}, 20786}, {2026, 11, spec{dLast, mon, 0}, 20787}, {2026, 11, spec{dLast, tue, 0}, 20781},
		{2026, 11, spec{dLast, wed, 0}, 20782}, {2026, 11, spec{dLast, thu, 0}, 20783}, {2026, 11, spec{dLast, fri, 0}, 20784},
		{2026, 11, spec{dLast, sat, 0}, 20785},
		// November 8, 2026, is a Sunday.
		{2026, 11, spec{dFrom, sun, 8}, 20765}, {2026, 11, spec{dFrom, mon, 8}, 20766}, {2026, 11, spec{dFrom, tue, 8}, 20767},
		{2026, 11, spec{dFrom, wed, 8}, 20768}, {2026, 11, spec{dFrom, thu, 8}, 20769}, {2026, 11, spec{dFrom, fri, 8}, 20770},
		{2026, 11, spec{dFrom, sat, 8}, 20771}, {2026, 11, spec{dFrom, sun, 9}, 20772},
		{2026, 11, spec{dTill, sun, 8}, 20765}, {2026, 11, spec{dTill, sat, 8}, 20764}, {2026, 11, spec{dTill, fri, 8}, 20763},
		{2026, 11, spec{dTill, thu, 8}, 20762}, {2026, 11, spec{dTill, wed, 8}, 20761}, {2026, 11, spec{dTill, tue, 8}, 20760},
		{2026, 11, spec{dTill, mon, 8}, 20759}, {2026, 11, spec{dTill, sun, 7}, 20758}, {2026, 11, spec{dTill, sun, 25}, 20779},
		// The next month, which may be one of the next year.
		{2026, 11, spec{dFrom, mon, 30}, 20787}, {2026, 11, spec{dFrom, tue, 30}, 20788}, {2026, 11, spec{dFrom, sun, 30}, 20793},
		{2026, 12, spec{dFrom, fri, 31}, number(2027, 1, 1)}, {2026, 12, spec{dFrom, wed, 31}, number(2027, 1, 6)},
		// The preceding month, which may be one of the preceding year.
		{2026, 11, spec{dTill, sun, 1}, 20758}, {2026, 11, spec{dTill, sat, 1}, 20757}, {2026, 11, spec{dTill, mon, 1}, 20752},
		{2026, 1, spec{dTill, wed, 1}, number(2025, 12, 31)}, {2026, 1, spec{dTill, fri, 1}, number(2025, 12, 26)},
		{1970, 1, spec{dTill, fri, 1}, -6}, {1970, 1, spec{dTill, thu, 1}, 0}, {1970, 1, spec{dTill, wed, 1}, -1},
	} {
		checkOf(t, c.y, c.m, api.Day(c.d), c.n)
	}
}

// P7: the ends of February, in each kind of year.
func TestFebruary(t *testing.T) {
	for _, y := range []int{1600, 1604, 1996, 2000, 2004, 2024, 2396} {
		end := number(y, 3, 1) - 1
		checkOf(t, y, 2, api.Day{Kind: dNumber, N: 29}, end)
		checkOf(t, y, 2, api.Day{Kind: dLast, Weekday: weekdayOf(end)}, end)
		checkOf(t, y, 2, api.Day{Kind: dTill, Weekday: weekdayOf(end), N: 29}, end)
		checkOf(t, y, 2, api.Day{Kind: dFrom, Weekday: weekdayOf(end), N: 29}, end)
		checkOf(t, y, 2, api.Day{Kind: dFrom, Weekday: weekdayOf(end + 1), N: 29}, end+1)
		checkBeyond(t, y, 2, 30)
	}
	for _, y := range []int{1601, 1700, 1800, 1900, 1970, 2001, 2026, 2100, 2200, 2300, 2399} {
		end := number(y, 3, 1) - 1
		checkOf(t, y, 2, api.Day{Kind: dNumber, N: 28}, end)
		checkOf(t, y, 2, api.Day{Kind: dLast, Weekday: weekdayOf(end)}, end)
		checkOf(t, y, 2, api.Day{Kind: dLast, Weekday: weekdayOf(end + 1)}, end-6)
		checkOf(t, y, 2, api.Day{Kind: dFrom, Weekday: weekdayOf(end + 1), N: 28}, end+1)
		checkBeyond(t, y, 2, 29)
	}
}

// checkBeyond checks that no kind with an N has a day for N and above, not
// even if the specified day were in the month.
func checkBeyond(t *testing.T, y, m, from int) {
	t.Helper()
	for n := from; n <= 31; n++ {
		checkNotOf(t, y, m, api.Day{Kind: dNumber, N: n}, api.ErrNone)
		for w := sun; w <= sat; w++ {
			checkNotOf(t, y, m, api.Day{Kind: dFrom, Weekday: w, N: n}, api.ErrNone)
			checkNotOf(t, y, m, api.Day{Kind: dTill, Weekday: w, N: n}, api.ErrNone)
		}
	}
}

// P7: N equal to the length of the month and one more, in every month.
func TestLengthsOfMonths(t *testing.T) {
	for _, y := range []int{firstYear, 1900, 2000, 2024, 2026, lastYear} {
		for m := 1; m <= 12; m++ {
			length := lengthOf(y, m)
			end := number(y, m, length)
			checkOf(t, y, m, api.Day{Kind: dNumber, N: length}, end)
			checkOf(t, y, m, api.Day{Kind: dTill, Weekday: weekdayOf(end), N: length}, end)
			checkOf(t, y, m, api.Day{Kind: dFrom, Weekday: weekdayOf(end), N: length}, end)
			checkBeyond(t, y, m, length+1)
		}
	}
}

// P7: every specification in every supported month.
func TestEveryMonth(t *testing.T) {
	all := allDays()
	for y := firstYear; y <= lastYear; y++ {
		for m := 1; m <= 12; m++ {
			first, length := number(y, m, 1), lengthOf(y, m)
			weekday := weekdayOf(first)
			for _, d := range all {
				want, wantErr := wantOf(first, length, weekday, d)
				if n, e := day.Of(y, m, d); n != want || e != wantErr {
					t.Fatalf("Of(%d, %d, %v) = %d, %d, want %d, %d", y, m, d, n, e, want, wantErr)
				}
			}
		}
	}
}

// P7: January 1600 begins with a Saturday: earlier days are not supported.
func TestFirstMonth(t *testing.T) {
	checkOf(t, firstYear, 1, api.Day{Kind: dNumber, N: 1}, firstDay)
	checkOf(t, firstYear, 1, api.Day{Kind: dTill, Weekday: sat, N: 1}, firstDay)
	checkOf(t, firstYear, 1, api.Day{Kind: dTill, Weekday: sat, N: 7}, firstDay)
	checkOf(t, firstYear, 1, api.Day{Kind: dTill, Weekday: fri, N: 7}, firstDay+6)
	checkOf(t, firstYear, 1, api.Day{Kind: dTill, Weekday: sun, N: 2}, firstDay+1)
	checkOf(t, firstYear, 1, api.Day{Kind: dFrom, Weekday: sat, N: 1}, firstDay)
	checkOf(t, firstYear, 1, api.Day{Kind: dFrom, Weekday: fri, N: 1}, firstDay+6)
	checkOf(t, firstYear, 1, api.Day{Kind: dLast, Weekday: mon}, firstDay+30)
	for w := sun; w <= fri; w++ {
		checkNotOf(t, firstYear, 1, api.Day{Kind: dTill, Weekday: w, N: 1}, api.ErrArg)
	}
	for n := 1; n <= 6; n++ {
		checkNotOf(t, firstYear, 1, api.Day{Kind: dTill, Weekday: fri, N: n}, api.ErrArg)
	}
	checkNotOf(t, firstYear-1, 12, api.Day{Kind: dFrom, Weekday: sat, N: 31}, api.ErrArg)
}

// P7: December 2399 ends with a Friday: later days are not supported.
func TestLastMonth(t *testing.T) {
	checkOf(t, lastYear, 12, api.Day{Kind: dNumber, N: 31}, lastDay)
	checkOf(t, lastYear, 12, api.Day{Kind: dFrom, Weekday: fri, N: 31}, lastDay)
	checkOf(t, lastYear, 12, api.Day{Kind: dFrom, Weekday: fri, N: 25}, lastDay)
	checkOf(t, lastYear, 12, api.Day{Kind: dFrom, Weekday: sat, N: 25}, lastDay-6)
	checkOf(t, lastYear, 12, api.Day{Kind: dFrom, Weekday: thu, N: 30}, lastDay-1)
	checkOf(t, lastYear, 12, api.Day{Kind: dTill, Weekday: fri, N: 31}, lastDay)
	checkOf(t, lastYear, 12, api.Day{Kind: dTill, Weekday: sat, N: 31}, lastDay-6)
	checkOf(t, lastYear, 12, api.Day{Kind: dLast, Weekday: fri}, lastDay)
	checkOf(t, lastYear, 12, api.Day{Kind: dLast, Weekday: sat}, lastDay-6)
	for _, w := range []int{sun, mon, tue, wed, thu, sat} {
		checkNotOf(t, lastYear, 12, api.Day{Kind: dFrom, Weekday: w, N: 31}, api.ErrArg)
	}
	for n := 26; n <= 31; n++ {
		checkNotOf(t, lastYear, 12, api.Day{Kind: dFrom, Weekday: sat, N: n}, api.ErrArg)
	}
	checkNotOf(t, lastYear+1, 1, api.Day{Kind: dTill, Weekday: fri, N: 1}, api.ErrArg)
}

// P7: the error of Check and that of the month come before ErrNone.
func TestOrderOfErrors(t *testing.T) {
	for _, d := range []spec{{0, 0, 31}, {5, 0, 31}, {dNumber, 1, 31}, {dNumber, 0, 32}, {dLast, 0, 31}, {dFrom, 7, 31}, {dFrom, 0, 32}, {dTill, -1, 31}, {dTill, 6, 32}} {
		checkNotOf(t, 2026, 2, api.Day(d), api.ErrArg)
		checkNotOf(t, 2026, 13, api.Day(d), api.ErrArg)
	}
	for _, d := range []spec{{dNumber, 0, 31}, {dFrom, 3, 31}, {dTill, 3, 31}} {
		checkNotOf(t, 2026, 2, api.Day(d), api.ErrNone)
		checkNotOf(t, firstYear-1, 2, api.Day(d), api.ErrArg)
		checkNotOf(t, lastYear+1, 2, api.Day(d), api.ErrArg)
		checkNotOf(t, 2026, 0, api.Day(d), api.ErrArg)
		checkNotOf(t, 2026, 13, api.Day(d), api.ErrArg)
		checkNotOf(t, 2026, 14, api.Day(d), api.ErrArg)
	}
}

// P1, P7: years and months out of range, for good specifications.
func TestWrongMonths(t *testing.T) {
	for _, d := range []spec{{dNumber, 0, 1}, {dNumber, 0, 31}, {dLast, 0, 0}, {dLast, 6, 0}, {dFrom, 3, 1}, {dFrom, 0, 31}, {dTill, 3, 1}, {dTill, 6, 31}} {
		for _, y := range append(extremes(), 0, 1, 26, 1599, 2400, 2401) {
			for _, m := range append(extremes(), 0, 1, 2, 12, 13) {
				checkNotOf(t, y, m, api.Day(d), api.ErrArg)
			}
		}
		for _, m := range append(extremes(), 0, 13, 14, 24) {
			for _, y := range []int{firstYear, 1970, 2026, lastYear} {
				checkNotOf(t, y, m, api.Day(d), api.ErrArg)
			}
		}
	}
}

// P7: known texts of every kind and weekday.
func TestKnownTexts(t *testing.T) {
	for s, d := range map[string]spec{
		"1": {dNumber, 0, 1}, "5": {dNumber, 0, 5}, "9": {dNumber, 0, 9}, "10": {dNumber, 0, 10}, "31": {dNumber, 0, 31},
		"lastSun": {dLast, 0, 0}, "lastMon": {dLast, 1, 0}, "lastTue": {dLast, 2, 0}, "lastWed": {dLast, 3, 0},
		"lastThu": {dLast, 4, 0}, "lastFri": {dLast, 5, 0}, "lastSat": {dLast, 6, 0},
		"Sun>=1": {dFrom, 0, 1}, "Mon>=2": {dFrom, 1, 2}, "Tue>=9": {dFrom, 2, 9}, "Wed>=10": {dFrom, 3, 10},
		"Thu>=11": {dFrom, 4, 11}, "Fri>=30": {dFrom, 5, 30}, "Sat>=31": {dFrom, 6, 31},
		"Sun<=1": {dTill, 0, 1}, "Mon<=2": {dTill, 1, 2}, "Tue<=9": {dTill, 2, 9}, "Wed<=10": {dTill, 3, 10},
		"Thu<=11": {dTill, 4, 11}, "Fri<=30": {dTill, 5, 30}, "Sat<=31": {dTill, 6, 31},
	} {
		checkText(t, api.Day(d), s)
	}
}

// P7: every specification has a text of its own, which is read.
func TestEveryText(t *testing.T) {
	seen := map[string]bool{}
	for _, d := range allDays() {
		checkText(t, d, wantText(d))
		seen[wantText(d)] = true
	}
	if want := 31 + 7 + 2*7*31; len(seen) != want {
		t.Errorf("%d texts, want %d", len(seen), want)
	}
}

// P1, P7: texts that no specification has.
func TestTextsOfNoDay(t *testing.T) {
	for _, s := range []string{
		// Bytes too few.
		"", "l", "last", "lastS", "lastSu", "S", "Sun", "Sun>", "Sun>=", "Sun<", "Sun<=", ">=8", "<=8", ">=", "<=", ">", "<", "=",
		"un>=8", "Su>=8", "Sun>8", "Sun<8", "Sun=8", "Sun8", "astSun", "latSun", "=8",
		// Bytes too many.
		"lastSunday", "lastSun1", "lastSun>=1", "lastSun<=8", "lastSunMon", "lastlastSun", "last Sun", "lastSun ", " lastSun",
		"Sunday>=8", "Sun>=8 ", " Sun>=8", "Sun >=8", "Sun>= 8", "Sun>=8x", "xSun>=8", "Sun>=8<=8", "Sun<=8>=8", "Sun>=8>=8",
		"Sun>=<=8", "Sun<=>=8", "Sun>==8", "Sun<==8", "Sun>>=8", "Sun<<=8", "SunSun>=8", "8Sun>=8", "5 ", " 5", "5\n", "5\x00", "\x005", "Sun>=8\x00",
		"Sun>=8Sun", "lastSun\x00", "5lastSun", "last5",
		// Leading zeros, and N out of its range.
		"0", "00", "01", "05", "09", "010", "031", "0031", "32", "33", "99", "100", "311", "131",
		"Sun>=0", "Sun>=00", "Sun>=01", "Sun>=08", "Sun>=031", "Sun>=32", "Sun>=99", "Sun>=100",
		"Sun<=0", "Sun<=00", "Sun<=01", "Sun<=08", "Sun<=031", "Sun<=32", "Sun<=99", "Sun<=100", "lastSun0", "lastSun00",
		"4294967297", "18446744073709551617", "9223372036854775807", "9223372036854775808", "-9223372036854775808",
		"Sun>=18446744073709551617", "Sun<=4294967297", "99999999999999999999999999",
		// Signs.
		"+5", "-5", "+0", "-0", "--5", "5-", "+31", "-1", "Sun>=+8", "Sun>=-8", "Sun<=+8", "Sun<=-8", "+Sun>=8", "-lastSun", "last+Sun", "last-Sun",
		// Weekdays that are unknown or in another case.
		"sun>=8", "SUN>=8", "sUn>=8", "suN>=8", "mon<=8", "MON<=8", "lastsun", "lastSUN", "lastSuN", "LastSun", "LASTSun", "lAstSun",
		"Son>=8", "Day>=8", "Die>=8", "Xxx<=8", "lastDay", "lastXxx", "Sut>=8", "Thr>=8", "Tues>=8", "Thur<=8", "0>=8", "1<=8", "last0", "last6",
		"Sum>=8", "Moo<=8", "Frl>=8", "Ѕun>=8",
		// Other operators.
		"Sun=>8", "Sun=<8", "Sun==8", "Sun!=8", "Sun<>8", "Sun><8", "Sun>>8", "Sun<<8", "Sun--8", "Sun: 8", "Sun≥8", "Sun≤8", "Sun  8", "Sun>\x008",
		"8>=Sun", "8<=Sun", "Sunlast", "Sun+=8", "firstSun", "nextSun",
		// Numbers that are not written in decimal.
		"5.", "5.0", "1e1", "0x5", "0b1", "0o5", "1_0", "3_1", "five", "a", "5a", "a5", "Sun>=0x8", "Sun>=1_0", "Sun>=1e0", "Sun>=８", "５", "/", ":", "1/", "1:", "Sun>=1:",
		"\x00", "\xff", "\xff5", "Sun>=\xff", "S\xffn>=8", "S\x00n>=8",
	} {
		checkNoText(t, s)
	}
	for _, s := range []string{"0", "1", "5", "last", "Sun", "lastSun", ">=", "<=", "Sun>=8", "Sun<=8", "\x00", "\xff", "-", "+"} {
		checkNoText(t, strings.Repeat(s, 1<<16))
	}
	checkNoText(t, strings.Repeat("0", 1<<16)+"5")
	checkNoText(t, "Sun>="+strings.Repeat("0", 1<<16)+"8")
	checkNoText(t, "lastSun"+strings.Repeat(" ", 1<<16))
}

// checkAgainst checks that a text is read if and only if it is written.
func checkAgainst(t *testing.T, s string, written map[string]api.Day) {
	t.Helper()
	if d, ok := written[s]; ok {
		checkText(t, d, s)
	} else {
		checkNoText(t, s)
	}
}

func writtenTexts() map[string]api.Day {
	written := map[string]api.Day{}
	for _, d := range allDays() {
		written[wantText(d)] = d
	}
	return written
}

// P7: Read reads exactly the texts that Text writes: all short texts, of all
// bytes or of a few pieces, are read if and only if some specification has
// them.
func TestShortTexts(t *testing.T) {
	written := writtenTexts()
	for a := range 256 {
		checkAgainst(t, string([]byte{byte(a)}), written)
		for b := range 256 {
			pair := string([]byte{byte(a), byte(b)})
			checkAgainst(t, pair, written)
			checkAgainst(t, "Sun"+pair+"8", written)
			checkAgainst(t, "Sat>="+pair, written)
			checkAgainst(t, "Sat<="+pair, written)
		}
	}
	pieces := []string{"last", "Sun", "Mon", "Sat", "sun", "S", ">=", "<=", ">", "=", "0", "1", "3", "8", "31", "-", "+", " "}
	var grow func(s string, left int)
	grow = func(s string, left int) {
		checkAgainst(t, s, written)
		for i := 0; i < len(pieces) && left > 0; i++ {
			grow(s+pieces[i], left-1)
		}
	}
	grow("", 5)
}

// P7: every word of three letters that is like a weekday.
func TestWordsLikeWeekdays(t *testing.T) {
	written := writtenTexts()
	const letters = "SsMmTtWwFfuoehraind"
	for a := range len(letters) {
		for b := range len(letters) {
			for c := range len(letters) {
				word := string([]byte{letters[a], letters[b], letters[c]})
				checkAgainst(t, "last"+word, written)
				checkAgainst(t, word+">=8", written)
				checkAgainst(t, word+"<=31", written)
			}
		}
	}
}

// P7: what one changed byte makes of a text is read if and only if some
// specification has it.
func TestTextsLikeDays(t *testing.T) {
	written := writtenTexts()
	for _, d := range allDays() {
		changes(wantText(d), bytesForDays, func(s string) { checkAgainst(t, s, written) })
	}
}

// changes yields the text with one byte left out, put in, replaced or swapped
// with the next one.
func changes(s, bytes string, yield func(string)) {
	for i := range len(s) + 1 {
		for j := range len(bytes) {
			yield(s[:i] + bytes[j:j+1] + s[i:])
			if i < len(s) {
				yield(s[:i] + bytes[j:j+1] + s[i+1:])
			}
		}
		if i < len(s) {
			yield(s[:i] + s[i+1:])
			yield(s[:i])
		}
		if i+1 < len(s) {
			yield(s[:i] + s[i+1:i+2] + s[i:i+1] + s[i+2:])
		}
	}
}

type answers struct {
	n              int
	text           string
	d              api.Day
	e1, e2, e3, e4 api.Errno
}

// ask asks about a specification and a month, good ones or not.
func ask(i int) (a answers) {
	d := api.Day{Kind: i % 6, Weekday: i / 6 % 8, N: i / 48 % 33}
	a.e1 = day.Check(d)
	a.n, a.e2 = day.Of(1598+i%804, i%14, d)
	a.text, a.e3 = day.Text(d)
	a.d, a.e4 = day.Read(a.text)
	return a
}

// P2: a result does not depend on which calls were made before, failed ones
// included.
func TestNoStateIsKept(t *testing.T) {
	const calls = 50000
	var upward []answers
	for i := range calls {
		upward = append(upward, ask(i))
	}
	for i := calls - 1; i >= 0; i-- {
		day.Of(math.MinInt, math.MaxInt, api.Day{Kind: i})
		if got := ask(i); got != upward[i] {
			t.Fatalf("call %d: %v, and before %v", i, got, upward[i])
		}
	}
}

// P2: calls from several goroutines do not disturb each other.
func TestCallsAtTheSameTime(t *testing.T) {
	const workers = 8
	all := allDays()
	failed := make(chan string, workers)
	for w := range workers {
		go func() {
			for y := firstYear + 1 + w; y < lastYear; y += workers {
				first := number(y, 3, 1)
				for _, d := range all {
					want, _ := wantOf(first, 31, weekdayOf(first), d)
					n, e := day.Of(y, 3, d)
					text, _ := day.Text(d)
					back, _ := day.Read(text)
					if n != want || e != api.OK || text != wantText(d) || back != d {
						failed <- fmt.Sprint(y, d)
						return
					}
				}
			}
			failed <- ""
		}()
	}
	for range workers {
		if s := <-failed; s != "" {
			t.Errorf("%s: wrong results", s)
		}
	}
}
