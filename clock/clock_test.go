package clock_test

import (
	"fmt"
	"math"
	"strings"
	"testing"
	"time"

	"timeball/api"
	"timeball/clock"
)

// The document's numbers, written out, so that a wrong constant is noticed.
const (
	maxSpan            = 604800
	firstDay, lastDay  = -135140, 157053
	secondsOfDay       = 86400
	firstTime          = -11676096000
	lastTime           = 13569465599
	firstText          = "1600-01-01T00:00:00"
	lastText           = "2399-12-31T23:59:59"
	layout             = "2006-01-02T15:04:05"
	bytesForSpans      = "0123456789:-+. /;aT\x00\x7f\x80\xff"
	bytesForTimestamps = "0123456789:-+. /;tTZ\x00\x7f\x80\xff"
)

// wantSpan is P4's format, told in another way than the package tells it.
func wantSpan(n int) string {
	sign := ""
	if n < 0 {
		sign, n = "-", -n
	}
	if n%60 == 0 {
		return fmt.Sprintf("%s%d:%02d", sign, n/3600, n/60%60)
	}
	return fmt.Sprintf("%s%d:%02d:%02d", sign, n/3600, n/60%60, n%60)
}

// wantStamp is P5's format, by the library's calendar.
func wantStamp(t int) string {
	return time.Unix(int64(t), 0).UTC().Format(layout)
}

func checkSpan(t *testing.T, n int, s string) {
	t.Helper()
	if got, e := clock.Span(n); got != s || e != api.OK {
		t.Fatalf("Span(%d) = %q, %d, want %q", n, got, e, s)
	}
	if got, e := clock.ReadSpan(s); got != n || e != api.OK {
		t.Fatalf("ReadSpan(%q) = %d, %d, want %d", s, got, e, n)
	}
}

func checkStamp(t *testing.T, n int, s string) {
	t.Helper()
	if got, e := clock.Stamp(n); got != s || e != api.OK {
		t.Fatalf("Stamp(%d) = %q, %d, want %q", n, got, e, s)
	}
	if got, e := clock.ReadStamp(s); got != n || e != api.OK {
		t.Fatalf("ReadStamp(%q) = %d, %d, want %d", s, got, e, n)
	}
}

func checkNoSpan(t *testing.T, s string) {
	t.Helper()
	if n, e := clock.ReadSpan(s); n != 0 || e != api.ErrSyntax {
		t.Errorf("ReadSpan(%.40q) = %d, %d, want 0 and ErrSyntax", s, n, e)
	}
}

func checkNoStamp(t *testing.T, s string) {
	t.Helper()
	if n, e := clock.ReadStamp(s); n != 0 || e != api.ErrSyntax {
		t.Errorf("ReadStamp(%.40q) = %d, %d, want 0 and ErrSyntax", s, n, e)
	}
}

// P4: known durations, on both sides of 0 and at both ends of the range.
func TestKnownSpans(t *testing.T) {
	for n, s := range map[int]string{
		0: "0:00", 1: "0:00:01", -1: "-0:00:01",
		59: "0:00:59", -59: "-0:00:59", 60: "0:01", -60: "-0:01", 61: "0:01:01", -61: "-0:01:01",
		599: "0:09:59", 600: "0:10", 3599: "0:59:59", -3599: "-0:59:59",
		3600: "1:00", -3600: "-1:00", 3601: "1:00:01", -3601: "-1:00:01", -5400: "-1:30",
		3660: "1:01", 3661: "1:01:01", 35999: "9:59:59", 36000: "10:00", -36000: "-10:00",
		86399: "23:59:59", 86400: "24:00", 359999: "99:59:59", 360000: "100:00",
		maxSpan - 1: "167:59:59", 1 - maxSpan: "-167:59:59", maxSpan - 60: "167:59",
		maxSpan: "168:00", -maxSpan: "-168:00",
	} {
		checkSpan(t, n, s)
	}
}

// P4: every duration.
func TestEverySpan(t *testing.T) {
	for n := -maxSpan; n <= maxSpan; n++ {
		checkSpan(t, n, wantSpan(n))
	}
}

// extremes are numbers near which differences and negations wrap around, or
// which look valid after they lost their upper bits.
func extremes() []int {
	return []int{
		math.MinInt, math.MinInt + 1, math.MinInt + maxSpan, math.MinInt + secondsOfDay,
		math.MaxInt, math.MaxInt - 1, math.MaxInt - maxSpan, math.MaxInt - secondsOfDay,
		1 << 40, -1 << 40, 1<<40 + 1, 1 << 56, -1 << 56, 1 << 62, -1 << 62, 1<<62 + 3600, -1<<62 - 3600,
	}
}

// P1, P4: durations out of range, among them those just outside.
func TestWrongSpans(t *testing.T) {
	numbers := append(extremes(), maxSpan+1, -maxSpan-1, maxSpan+60, -maxSpan-60, maxSpan+3600, 2*maxSpan,
		math.MinInt32, math.MaxInt32, 1<<32, 1<<32+3600, -1<<32, firstTime, lastTime)
	for _, n := range numbers {
		if s, e := clock.Span(n); s != "" || e != api.ErrArg {
			t.Errorf("Span(%d) = %q, %d, want an empty text and ErrArg", n, s, e)
		}
	}
}

// P1, P4: texts that no duration has.
func TestTextsOfNoSpan(t *testing.T) {
	for _, s := range []string{
		// Too little or too much.
		"", "-", ":", "::", "-:", "1", "12", "-1", "1:", ":00", ":30", "-:30", "1::", "1::01", ":00:01", "-:00:01",
		"1:00:", "1:00:01:", ":1:00", "1:00:01:01", "1:00:01:00", "100", "10000", "0", "00", "000",
		// Signs.
		"+1:00", "--1:00", "-+1:00", "+-1:00", "1:-00", "1:+5", "1:00:-1", "1-:00", "1:00-", "-0:00", "+0:00", "-0:00:00",
		// Digits too many or too few, and leading zeros.
		"1:0", "1:5", "1:000", "1:005", "1:030", "1:00:1", "1:00:001", "01:00", "00:00", "00:01", "001:00", "-01:00",
		"0001:00", "0168:00", "0:0", "0:1", "0:00:1",
		// Seconds written out as 00.
		"1:00:00", "0:00:00", "168:00:00", "-1:30:00",
		// Minutes and seconds above 59.
		"1:60", "0:60", "1:99", "-1:60", "1:61:01", "1:00:60", "1:00:61", "0:00:99", "-0:00:60", "167:60", "167:59:60",
		// Beyond both ends.
		"168:00:01", "-168:00:01", "168:01", "-168:01", "168:59:59", "169:00", "-169:00", "200:00", "999:00", "999:59:59",
		"1000:00", "9999:00", "9999:59:59", "10000:00", "99999999999999999999:00", "18446744073709551616:00",
		"5124095576030431:00", "-5124095576030431:00",
		// Bytes that are no digits.
		"a:00", "1:0a", "1:a0", "1:00:0a", "1:00:a1", "x1:00", "1:00x", "1:00:01x", " 1:00", "1:00 ", "1 :00", "1: 00",
		"1:00:01 ", "1:00\n", "1:00\x00", "\x001:00", "1.00", "1,00", "1;00", "1/00", "1h00", "1:00.5", "1:00:01.5",
		"/:00", "::00", "1:/0", "1:0:", "1:0/", "\xff:00", "1:\xff0", "1e1:00", "0x1:00", "1_0:00", "−1:00", "１:00", "1:００",
	} {
		checkNoSpan(t, s)
	}
	for _, s := range []string{"0", "1", ":", "-", "9:", "1:00", "1:00:01", "\x00", "\xff"} {
		checkNoSpan(t, strings.Repeat(s, 1<<16))
	}
	checkNoSpan(t, strings.Repeat("0", 1<<16)+"1:00")
	checkNoSpan(t, "1:00"+strings.Repeat("\x00", 1<<16))
}

// P4: ReadSpan reads exactly the texts that Span writes: all short texts of a
// few bytes are read if and only if some duration has them.
func TestShortTextsOfSpans(t *testing.T) {
	written := map[string]int{}
	for n := -maxSpan; n <= maxSpan; n++ {
		written[wantSpan(n)] = n
	}
	const bytes, longest = "-:0169a", 7
	var grow func(s string)
	grow = func(s string) {
		checkAgainst(t, s, written)
		for i := 0; i < len(bytes) && len(s) < longest; i++ {
			grow(s + bytes[i:i+1])
		}
	}
	grow("")
	for n := -maxSpan; n <= maxSpan; n += 7919 {
		changes(wantSpan(n), bytesForSpans, func(s string) { checkAgainst(t, s, written) })
	}
}

func checkAgainst(t *testing.T, s string, written map[string]int) {
	t.Helper()
	n, ok := written[s]
	if !ok {
		checkNoSpan(t, s)
	} else if got, e := clock.ReadSpan(s); got != n || e != api.OK {
		t.Errorf("ReadSpan(%q) = %d, %d, want %d", s, got, e, n)
	}
}

// changes yields the text with one byte left out, put in, replaced or swapped
// with the next one.
func changes(s, bytes string, yield func(string)) {
	for i := range len(s) + 1 {
		for j := range len(bytes) {
			yield(s[:i] + bytes[j:j+1] + s[i:])
			if i < len(s) {
				yield(s[:i] + bytes[j:j+1] + s[i+1:])
			}
		}
		if i < len(s) {
			yield(s[:i] + s[i+1:])
			yield(s[:i])
		}
		if i+1 < len(s) {
			yield(s[:i] + s[i+1:i+2] + s[i:i+1] + s[i+2:])
		}
	}
}

// P5: known times: both ends of the supported years, times before January 1,
// 1970, last seconds of days, and the last days of February.
func TestKnownStamps(t *testing.T) {
	for n, s := range map[int]string{
		firstTime: firstText, firstTime + 1: "1600-01-01T00:00:01", firstTime + 86399: "1600-01-01T23:59:59",
		lastTime: lastText, lastTime - 1: "2399-12-31T23:59:58", lastTime - 86399: "2399-12-31T00:00:00",
		0: "1970-01-01T00:00:00", 1: "1970-01-01T00:00:01", -1: "1969-12-31T23:59:59",
		59: "1970-01-01T00:00:59", 60: "1970-01-01T00:01:00", 3599: "1970-01-01T00:59:59", 3600: "1970-01-01T01:00:00",
		36000: "1970-01-01T10:00:00", 86399: "1970-01-01T23:59:59", 86400: "1970-01-02T00:00:00",
		-3600: "1969-12-31T23:00:00", -86399: "1969-12-31T00:00:01", -86400: "1969-12-31T00:00:00", -86401: "1969-12-30T23:59:59",
		-2208988800: "1900-01-01T00:00:00", -2208988801: "1899-12-31T23:59:59",
		-2203891201: "1900-02-28T23:59:59", -2203891200: "1900-03-01T00:00:00",
		951782399: "2000-02-28T23:59:59", 951782400: "2000-02-29T00:00:00", 951868799: "2000-02-29T23:59:59", 951868800: "2000-03-01T00:00:00",
		1709251199: "2024-02-29T23:59:59", 1709251200: "2024-03-01T00:00:00", 1740787199: "2025-02-28T23:59:59", 1740787200: "2025-03-01T00:00:00",
		4107542399: "2100-02-28T23:59:59", 4107542400: "2100-03-01T00:00:00",
		-11670912001: "1600-02-29T23:59:59", -11670912000: "1600-03-01T00:00:00",
		math.MaxInt32: "2038-01-19T03:14:07", math.MinInt32: "1901-12-13T20:45:52", 1 << 32: "2106-02-07T06:28:16",
	} {
		checkStamp(t, n, s)
	}
}

// P5: the first and the last second of every day, and one in between.
func TestEveryDaysStamps(t *testing.T) {
	for n := firstDay; n <= lastDay; n++ {
		start := n * secondsOfDay
		between := (n - firstDay) * 7919 % secondsOfDay
		for _, second := range []int{0, between, secondsOfDay - 1} {
			checkStamp(t, start+second, wantStamp(start+second))
		}
	}
}

// P5: every second of the first day, of the last one, and of those around
// January 1, 1970.
func TestEverySecondsStamps(t *testing.T) {
	for _, n := range []int{firstDay, -1, 0, 11016, lastDay} {
		for second := range secondsOfDay {
			at := n*secondsOfDay + second
			checkStamp(t, at, wantStamp(at))
		}
	}
}

// P1, P5: times outside of the supported years, among them those just outside.
func TestWrongTimes(t *testing.T) {
	numbers := append(extremes(), firstTime-1, firstTime-86400, lastTime+1, lastTime+86400,
		firstTime-12622780800, lastTime+12622780800, math.MinInt/secondsOfDay, math.MaxInt/secondsOfDay)
	for _, n := range numbers {
		if s, e := clock.Stamp(n); s != "" || e != api.ErrArg {
			t.Errorf("Stamp(%d) = %q, %d, want an empty text and ErrArg", n, s, e)
		}
	}
}

// P1, P5: texts that no time has.
func TestTextsOfNoStamp(t *testing.T) {
	for _, s := range []string{
		// Too little or too much.
		"", "T", "1970", "1970-01-01", "1970-01-01T", "1970-01-01T00", "1970-01-01T00:00", "1970-01-01T00:00:", "00:00:00",
		"1970-01-01T00:00:000", "1970-01-01T00:00:00:00", "1970-01-01T00:00:00Z", "1970-01-01T00:00:00.0", "1970-01-01T00:00:00 ",
		" 1970-01-01T00:00:00", "1970-01-01T00:00:00\n", "1970-01-01T00:00:00\x00", "-1970-01-01T00:00:00", "+1970-01-01T00:00:00",
		"01970-01-01T00:00:00", "970-01-01T00:00:00", "970-001-01T00:00:00",
		"1970-1-01T00:00:00", "1970-01-1T00:00:00", "1970-01-01T0:00:00", "1970-01-01T00:0:00", "1970-01-01T00:00:0",
		"1970-001-1T00:00:00", "1970-01-001T0:00:00",
		// Other bytes than digits and separators.
		"1970/01/01T00:00:00", "1970-01-01 00:00:00", "1970-01-01t00:00:00", "1970-01-01T00-00-00", "1970:01:01T00:00:00",
		"1970-01-01T00.00.00", "19700-1-01T00:00:00", "1970-0-101T00:00:00", "1970-01-01T00:00:0a", "197a-01-01T00:00:00",
		"1970-0a-01T00:00:00", "1970-01-0aT00:00:00", "1970-01-01T0a:00:00", "1970-01-01T00:0a:00", "1970- 1- 1T 0: 0: 0",
		"1970--1-01T00:00:00", "1970-+1-01T00:00:00", "1970-01-01T-1:00:00", "1970-01-01T+1:00:00", "1970-01-01T00:-1:00",
		"1970-01-01T00:00:-1", "1970-01-01T00:00:+1", "-970-01-01T00:00:00", "+970-01-01T00:00:00",
		"1970-01-01T00:00:0/", "1970-01-01T00:00:0:", "1970-01-01T00:00:\x00\x00", "1970-01-01T00:00:\xff0", "1970-01-01T00:00:０",
		// Outside of the supported years.
		"1599-12-31T23:59:59", "2400-01-01T00:00:00", "0000-01-01T00:00:00", "0001-01-01T00:00:00", "0970-01-01T00:00:00",
		"9999-12-31T23:59:59", "3970-01-01T00:00:00",
		// No months and no days.
		"1970-00-01T00:00:00", "1970-13-01T00:00:00", "1970-99-01T00:00:00", "1970-01-00T00:00:00", "1970-01-32T00:00:00",
		"1970-01-99T00:00:00", "1970-04-31T00:00:00", "1970-06-31T00:00:00", "1970-09-31T00:00:00", "1970-11-31T00:00:00",
		"2001-02-29T00:00:00", "1900-02-29T00:00:00", "2100-02-29T23:59:59", "2000-02-30T00:00:00", "1600-02-30T00:00:00",
		"2024-02-30T00:00:00", "2399-02-29T00:00:00",
		// No times of a day.
		"1970-01-01T24:00:00", "1970-01-01T24:00:01", "1970-01-01T99:00:00", "1970-01-01T00:60:00", "1970-01-01T00:99:00",
		"1970-01-01T00:00:60", "1970-01-01T23:59:60", "2016-12-31T23:59:60", "1970-01-01T00:00:99", "2399-12-31T24:00:00",
	} {
		checkNoStamp(t, s)
	}
	for _, s := range []string{"0", "-", "T", ":", firstText, "\x00", "\xff"} {
		checkNoStamp(t, strings.Repeat(s, 1<<16))
	}
}

// readable tells by the library whether a time has the text.
func readable(s string) (int, bool) {
	at, err := time.Parse(layout, s)
	if err != nil || at.Format(layout) != s || at.Year() < 1600 || at.Year() > 2399 {
		return 0, false
	}
	return int(at.Unix()), true
}

// P5: ReadStamp reads exactly the texts that Stamp writes: what one changed
// byte makes of a timestamp is read if and only if some time has it.
func TestTextsLikeStamps(t *testing.T) {
	times := []int{firstTime, lastTime, 0, -1, 951868799, 951782400, -2203891201, 4107542399, 1795910399, 1234567890}
	for n := firstTime; n <= lastTime; n += 365250000 {
		times = append(times, n)
	}
	for _, n := range times {
		changes(wantStamp(n), bytesForTimestamps, func(s string) {
			want, ok := readable(s)
			if !ok {
				checkNoStamp(t, s)
			} else {
				checkStamp(t, want, s)
			}
		})
	}
}

// P5: every number of two digits, at every place of a timestamp that has two.
func TestNumbersOfStamps(t *testing.T) {
	for _, form := range []string{
		"%02d00-01-01T00:00:00", "16%02d-02-29T12:00:00", "23%02d-02-29T12:00:00",
		"1970-%02d-01T00:00:00", "1970-%02d-31T00:00:00", "1970-02-%02dT00:00:00", "2000-02-%02dT23:59:59", "2026-11-%02dT23:59:59",
		"1970-01-01T%02d:00:00", "1970-01-01T23:%02d:59", "1970-01-01T23:59:%02d",
	} {
		for v := range 100 {
			s := fmt.Sprintf(form, v)
			if want, ok := readable(s); ok {
				checkStamp(t, want, s)
			} else {
				checkNoStamp(t, s)
			}
		}
	}
}

type answers struct {
	span, stamp    string
	n, at          int
	e1, e2, e3, e4 api.Errno
}

func ask(n int) (a answers) {
	a.span, a.e1 = clock.Span(n % (maxSpan + 1))
	a.n, a.e2 = clock.ReadSpan(a.span)
	a.stamp, a.e3 = clock.Stamp(n)
	a.at, a.e4 = clock.ReadStamp(a.stamp)
	return a
}

// P2: a result does not depend on which calls were made before, failed ones
// included.
func TestNoStateIsKept(t *testing.T) {
	const step = 7654321
	var upward []answers
	for n := firstTime - step; n <= lastTime+step; n += step {
		upward = append(upward, ask(n))
	}
	for i := len(upward) - 1; i >= 0; i-- {
		n := firstTime - step + i*step
		ask(math.MinInt)
		if got := ask(n); got != upward[i] {
			t.Fatalf("time %d: %v, and before %v", n, got, upward[i])
		}
	}
}

// P2: calls from several goroutines do not disturb each other.
func TestCallsAtTheSameTime(t *testing.T) {
	const workers, step = 8, 1234567
	failed := make(chan int, workers)
	for w := range workers {
		go func() {
			for n := firstTime + w; n <= lastTime; n += step {
				if a := ask(n); a.at != n || a.stamp != wantStamp(n) || a.n != n%(maxSpan+1) || a.span != wantSpan(a.n) {
					failed <- n
					return
				}
			}
			failed <- math.MinInt
		}()
	}
	for range workers {
		if n := <-failed; n != math.MinInt {
			t.Errorf("time %d: wrong results", n)
		}
	}
}
