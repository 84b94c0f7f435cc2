package civil_test

import (
	"math"
	"testing"

	"timeball/api"
	"timeball/civil"
)

// The document's numbers, written out, so that a wrong constant is noticed.
const (
	firstYear, lastYear = 1600, 2399
	firstDay, lastDay   = -135140, 157053
)

type date struct{ y, m, d int }

// wantLength is the document's list of months, told in another way than the
// package tells it.
func wantLength(y, m int) int {
	switch m {
	case 4, 6, 9, 11:
		return 30
	case 2:
		switch {
		case y%400 == 0:
			return 29
		case y%100 == 0:
			return 28
		case y%4 == 0:
			return 29
		}
		return 28
	}
	return 31
}

// next returns the date of the day after.
func (c date) next() date {
	switch {
	case c.d < wantLength(c.y, c.m):
		return date{c.y, c.m, c.d + 1}
	case c.m < 12:
		return date{c.y, c.m + 1, 1}
	}
	return date{c.y + 1, 1, 1}
}

func checkDate(t *testing.T, c date, n, weekday int) {
	t.Helper()
	if got, e := civil.Days(c.y, c.m, c.d); got != n || e != api.OK {
		t.Fatalf("Days(%v) = %d, %d, want %d", c, got, e, n)
	}
	if y, m, d, e := civil.Date(n); (date{y, m, d}) != c || e != api.OK {
		t.Fatalf("Date(%d) = %d, %d, %d, %d, want %v", n, y, m, d, e, c)
	}
	if got, e := civil.Weekday(n); got != weekday || e != api.OK {
		t.Fatalf("Weekday(%d) = %d, %d, want %d", n, got, e, weekday)
	}
}

// P3: known dates, on both sides of January 1, 1970.
func TestKnownDates(t *testing.T) {
	for _, c := range []struct {
		date
		n, weekday int
	}{
		{date{1600, 1, 1}, firstDay, 6},
		{date{1600, 2, 29}, -135081, 2},
		{date{1600, 3, 1}, -135080, 3},
		{date{1900, 1, 1}, -25567, 1},
		{date{1900, 2, 28}, -25509, 3},
		{date{1900, 3, 1}, -25508, 4},
		{date{1968, 2, 29}, -672, 4},
		{date{1969, 1, 1}, -365, 3},
		{date{1969, 12, 31}, -1, 3},
		{date{1970, 1, 1}, 0, 4},
		{date{1970, 1, 2}, 1, 5},
		{date{1999, 12, 31}, 10956, 5},
		{date{2000, 1, 1}, 10957, 6},
		{date{2000, 2, 29}, 11016, 2},
		{date{2000, 3, 1}, 11017, 3},
		{date{2004, 2, 29}, 12477, 0},
		{date{2026, 11, 29}, 20786, 0},
		{date{2100, 2, 28}, 47540, 0},
		{date{2100, 3, 1}, 47541, 1},
		{date{2399, 12, 31}, lastDay, 5},
	} {
		checkDate(t, c.date, c.n, c.weekday)
	}
}

// P3: every supported day, by walking from the first one to the last one.
func TestEveryDay(t *testing.T) {
	c, weekday := date{firstYear, 1, 1}, 6
	for n := firstDay; n <= lastDay; n++ {
		checkDate(t, c, n, weekday)
		c, weekday = c.next(), (weekday+1)%7
	}
	if c != (date{lastYear + 1, 1, 1}) {
		t.Errorf("the day after the last one is %v", c)
	}
}

// P3: the period of the calendar is 400 years, of a whole number of weeks.
func TestPeriod(t *testing.T) {
	const period = 146097
	for n := firstDay; n+period <= lastDay; n++ {
		y, m, d, _ := civil.Date(n)
		w, _ := civil.Weekday(n)
		checkDate(t, date{y + 400, m, d}, n+period, w)
	}
}

// P3: the length of every month, and both days around its end.
func TestEveryMonth(t *testing.T) {
	for y := firstYear; y <= lastYear; y++ {
		for m := 1; m <= 12; m++ {
			want := wantLength(y, m)
			if got, e := civil.Length(y, m); got != want || e != api.OK {
				t.Fatalf("Length(%d, %d) = %d, %d, want %d", y, m, got, e, want)
			}
			if _, e := civil.Days(y, m, want); e != api.OK {
				t.Fatalf("Days(%d, %d, %d): error %d", y, m, want, e)
			}
			checkNoDate(t, y, m, want+1)
			checkNoDate(t, y, m, 0)
		}
	}
}

// P3: the lengths of February, in each kind of year.
func TestFebruary(t *testing.T) {
	for _, c := range [][2]int{
		{1600, 29}, {1601, 28}, {1602, 28}, {1603, 28}, {1604, 29},
		{1700, 28}, {1800, 28}, {1896, 29}, {1900, 28}, {1904, 29},
		{1968, 29}, {1970, 28}, {1996, 29}, {2000, 29}, {2001, 28},
		{2004, 29}, {2100, 28}, {2200, 28}, {2300, 28}, {2396, 29}, {2399, 28},
	} {
		if got, e := civil.Length(c[0], 2); got != c[1] || e != api.OK {
			t.Errorf("Length(%d, 2) = %d, %d, want %d", c[0], got, e, c[1])
		}
		checkNoDate(t, c[0], 2, c[1]+1)
	}
}

func checkNoDate(t *testing.T, y, m, d int) {
	t.Helper()
	if n, e := civil.Days(y, m, d); n != 0 || e != api.ErrArg {
		t.Errorf("Days(%d, %d, %d) = %d, %d, want 0 and ErrArg", y, m, d, n, e)
	}
}

func checkNoMonth(t *testing.T, y, m int) {
	t.Helper()
	if n, e := civil.Length(y, m); n != 0 || e != api.ErrArg {
		t.Errorf("Length(%d, %d) = %d, %d, want 0 and ErrArg", y, m, n, e)
	}
}

func checkNoDay(t *testing.T, n int) {
	t.Helper()
	if y, m, d, e := civil.Date(n); y != 0 || m != 0 || d != 0 || e != api.ErrArg {
		t.Errorf("Date(%d) = %d, %d, %d, %d, want zeros and ErrArg", n, y, m, d, e)
	}
	if w, e := civil.Weekday(n); w != 0 || e != api.ErrArg {
		t.Errorf("Weekday(%d) = %d, %d, want 0 and ErrArg", n, w, e)
	}
}

// extremes are numbers near which sums and differences wrap around, or which
// look valid after they lost their upper bits.
func extremes() []int {
	return []int{
		math.MinInt, math.MinInt + 1, math.MinInt + 135140, math.MinInt + 1970,
		math.MaxInt, math.MaxInt - 1, math.MaxInt - 157053, math.MaxInt - 2399,
		math.MinInt32, math.MinInt32 - 1, math.MaxInt32, math.MaxInt32 + 1,
		1<<32 + 1, 1<<32 + 1970, -1<<32 + 1, -1<<32 + 1970,
		1<<40 + 1, 1<<62 + 1, -1 << 62, 1<<24 + 1, 1<<24 + 1970, -1<<24 + 1970,
	}
}

// P1, P3: years out of range, among them those just outside.
func TestWrongYears(t *testing.T) {
	years := append(extremes(), -1600, -1, 0, 1, 70, 1599, 2400, 2401, 4000)
	for _, y := range years {
		for _, m := range append(extremes(), 0, 1, 2, 12, 13) {
			checkNoMonth(t, y, m)
			checkNoDate(t, y, m, 1)
			checkNoDate(t, y, m, math.MinInt)
			checkNoDate(t, y, m, math.MaxInt)
		}
	}
	checkNoDate(t, 1599, 12, 31)
	checkNoDate(t, 2400, 1, 1)
}

// P1, P3: months out of range.
func TestWrongMonths(t *testing.T) {
	for _, m := range append(extremes(), -12, -1, 0, 13, 14, 24) {
		for _, y := range []int{firstYear, 1900, 1970, 2000, lastYear} {
			checkNoMonth(t, y, m)
			for _, d := range append(extremes(), 0, 1, 31) {
				checkNoDate(t, y, m, d)
			}
		}
	}
}

// P1, P3: days out of range, in every month of several years.
func TestWrongDays(t *testing.T) {
	for _, d := range append(extremes(), -31, -1, 0, 32, 60, 366) {
		for _, y := range []int{firstYear, 1900, 1970, 2000, lastYear} {
			for m := 1; m <= 12; m++ {
				checkNoDate(t, y, m, d)
			}
		}
	}
	for _, c := range []date{
		{1601, 2, 29}, {1700, 2, 29}, {1900, 2, 29}, {2001, 2, 29},
		{2100, 2, 29}, {1600, 2, 30}, {2000, 2, 30}, {2024, 2, 30},
		{2026, 4, 31}, {2026, 6, 31}, {2026, 9, 31}, {2026, 11, 31},
	} {
		checkNoDate(t, c.y, c.m, c.d)
	}
}

// P1, P3: day numbers out of range, among them those just outside.
func TestWrongDayNumbers(t *testing.T) {
	numbers := append(extremes(), firstDay-1, firstDay-7, firstDay-366,
		lastDay+1, lastDay+7, lastDay+366, lastDay+146097)
	for _, n := range numbers {
		checkNoDay(t, n)
	}
}

type answers struct {
	length, days, y, m, d, weekday int
	e1, e2, e3, e4                 api.Errno
}

func ask(n int) (a answers) {
	a.y, a.m, a.d, a.e1 = civil.Date(n)
	a.weekday, a.e2 = civil.Weekday(n)
	a.length, a.e3 = civil.Length(a.y, a.m)
	a.days, a.e4 = civil.Days(a.y, a.m, a.d)
	return a
}

// P2: a result does not depend on which calls were made before, failed ones
// included.
func TestNoStateIsKept(t *testing.T) {
	const step = 97
	var upward []answers
	for n := firstDay - step; n <= lastDay+step; n += step {
		upward = append(upward, ask(n))
	}
	for i := len(upward) - 1; i >= 0; i-- {
		n := firstDay - step + i*step
		ask(math.MinInt)
		if got := ask(n); got != upward[i] {
			t.Fatalf("day %d: %v, and before %v", n, got, upward[i])
		}
	}
}

// P2: calls from several goroutines do not disturb each other.
func TestCallsAtTheSameTime(t *testing.T) {
	const workers, step = 8, 31
	failed := make(chan int, workers)
	for w := range workers {
		go func() {
			for n := firstDay + w; n <= lastDay; n += step {
				if a := ask(n); a.e1 != api.OK || a.e2 != api.OK || a.e3 != api.OK || a.days != n {
					failed <- n
					return
				}
			}
			failed <- math.MinInt
		}()
	}
	for range workers {
		if n := <-failed; n != math.MinInt {
			t.Errorf("day %d: wrong results", n)
		}
	}
}
