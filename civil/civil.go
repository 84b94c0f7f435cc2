// Package civil: days and dates: see doc/01-civil.md.
package civil

import "timeball/api"

// The day numbers of the first and of the last day of the supported years.
const (
	firstDay = -135140
	lastDay  = 157053
)

// The calendar repeats every 400 years, so the first day is a Saturday like
// January 1, 2000.
const firstWeekday = 6

// The days from January 1 of year 1 to January 1, 1970. Counting leap years
// from year 1 on needs no correction for where the period of 400 years starts.
const daysToEpoch = 719162

// The days of the months of a year that is not a leap year.
var lengths = [12]int{31, 28, 31, 30, 31, 30, 31, 31, 30, 31, 30, 31}

// Length returns the number of days of a month.
func Length(y, m int) (int, api.Errno) {
	if !isYear(y) || !isMonth(m) {
		return 0, api.ErrArg
	}
	return monthLength(y, m), api.OK
}

// Days returns the day number of a date.
func Days(y, m, d int) (int, api.Errno) {
	if !isYear(y) || !isMonth(m) || d < 1 || d > monthLength(y, m) {
		return 0, api.ErrArg
	}
	n := yearStart(y)
	for before := 1; before < m; before++ {
		n += monthLength(y, before)
	}
	return n + d - 1, api.OK
}

// Date returns the year, month and day with the day number n.
func Date(n int) (int, int, int, api.Errno) {
	if !isDay(n) {
		return 0, 0, 0, api.ErrArg
	}
	y := yearOf(n)
	m, left := 1, n-yearStart(y)
	for left >= monthLength(y, m) {
		left -= monthLength(y, m)
		m++
	}
	return y, m, left + 1, api.OK
}

// Weekday returns the weekday of a day number, from 0 (Sunday) to 6 (Saturday).
func Weekday(n int) (int, api.Errno) {
	if !isDay(n) {
		return 0, api.ErrArg
	}
	// Counting from the first day keeps the dividend from being negative.
	return (n - firstDay + firstWeekday) % 7, api.OK
}

func isYear(y int) bool { return y >= api.FirstYear && y <= api.LastYear }

func isMonth(m int) bool { return m >= 1 && m <= 12 }

func isDay(n int) bool { return n >= firstDay && n <= lastDay }

func isLeap(y int) bool { return y%4 == 0 && (y%100 != 0 || y%400 == 0) }

func monthLength(y, m int) int {
	if m == 2 && isLeap(y) {
		return 29
	}
	return lengths[m-1]
}

// yearStart returns the day number of January 1.
func yearStart(y int) int {
	past := y - 1
	return 365*past + past/4 - past/100 + past/400 - daysToEpoch
}

// yearOf returns the year of a day. No year has more than 366 days, so the
// first guess is never too late, and over 800 years at most two years early.
func yearOf(n int) int {
	y := api.FirstYear + (n-firstDay)/366
	for yearStart(y+1) <= n {
		y++
	}
	return y
}
