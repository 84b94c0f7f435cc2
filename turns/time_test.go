package turns_test

import (
	"math/rand"
	"strconv"
	"testing"

	"timeball/api"
	"timeball/turns"
)

// P14: each clock, with each offset, after a saving that is 0 or is not. The
// first transition has no saving before it.
func TestClocks(t *testing.T) {
	const first, second, third = 954547200, 962452800, 970358400 // nominal times
	offsets := []int{-64800, -64799, -18000, -3600, -1, 0, 1, 3600, 20700, 64799, 64800}
	for _, offset := range offsets {
		for _, save := range []int{0, 1, 1800, 3600, 10799, 10800} {
			for _, next := range []int{0, 1200, 10800} {
				for by, ahead := range [][3]int{
					0: {offset, offset + save, offset + next}, // Wall
					1: {offset, offset, offset},               // Standard
					2: {0, 0, 0},                              // Universal
				} {
					b := bookOf("rule A 2000 2000 4 1 0:00 0:00 A", "rule A 2000 2000 7 1 12:00 0:00 B", "rule A 2000 2000 10 1 0:00 0:20 -")
					for i, s := range []int{save, next, 1200} {
						b.Rules[i].By, b.Rules[i].Save = by, s
					}
					list, e := turns.Of(b, "A", offset)
					if len(list) != 3 || e != api.OK {
						t.Fatalf("Of(%s, %d) = %v, %d", show(b), offset, list, e)
					}
					want := [3]api.Turn{
						{At: first - ahead[0], Save: save, Letter: "A"}, {At: second - ahead[1], Save: next, Letter: "B"},
						{At: third - ahead[2], Save: 1200, Letter: "-"},
					}
					if [3]api.Turn(list) != want {
						t.Errorf("Of(%s, %d) = %v, want %v", show(b), offset, list, want)
					}
				}
			}
		}
	}
}

// P14: the clocks of the transitions before and after do not count, only the
// saving of the one before.
func TestMixedClocks(t *testing.T) {
	for i := range 3 * 3 * 3 * 3 {
		by := [4]int{i % 3, i / 3 % 3, i / 9 % 3, i / 27}
		b := bookOf("rule A 2000 2001 2 1 2:00 2:00 A", "rule A 2000 2001 5 1 2:00 0:30 B", "rule A 2000 2001 8 1 2:00 3:00 C", "rule A 2000 2001 11 1 2:00 0:00 D")
		for k := range b.Rules {
			b.Rules[k].By = by[k]
		}
		for _, offset := range []int{-maxOffset, -hour, 0, 5400, maxOffset} {
			if !checkRules(t, b, "A", offset) {
				t.Errorf("%v: no transitions", by)
			}
		}
	}
}

// P14: no saving is in effect before the first transition: neither that of the
// last one, nor that of the rule listed first, which is not the first in time,
// nor its own.
func TestNoSavingBeforeTheFirst(t *testing.T) {
	forward, back, early := "rule A 2000 2002 9 1 0:00 1:00 S", "rule A 2000 2002 3 1 0:00 0:30 -", "rule A 1999 1999 6 1 0:00 3:00 E"
	list := []string{
		"2000-03-01T00:00:00 1800 -", "2000-08-31T23:30:00 3600 S", "2001-02-28T23:00:00 1800 -",
		"2001-08-31T23:30:00 3600 S", "2002-02-28T23:00:00 1800 -", "2002-08-31T23:30:00 3600 S",
	}
	checkTexts(t, bookOf(forward, back), "A", 0, list...)
	checkTexts(t, bookOf(back, forward), "A", 0, list...)
	list[0] = "2000-02-29T21:00:00 1800 -"
	for _, lines := range [][]string{{forward, back, early}, {forward, early, back}, {early, forward, back}, {back, early, forward}} {
		checkTexts(t, bookOf(lines...), "A", 0, append([]string{"1999-06-01T00:00:00 10800 E"}, list...)...)
	}
	// The rule of another name has an earlier transition, and a saving.
	list[0] = "2000-03-01T00:00:00 1800 -"
	checkTexts(t, bookOf("rule B 1999 2000 1 1 0:00 3:00 B", forward, back), "A", 0, list...)
}

// P14: the time of day: below 0, above a day, and at its bounds.
func TestTimesOfDay(t *testing.T) {
	for _, c := range []struct{ at, want string }{
		{"-168:00", "2000-06-08T00:00:00"}, {"-167:59:59", "2000-06-08T00:00:01"}, {"-24:00:01", "2000-06-13T23:59:59"}, {"-24:00", "2000-06-14T00:00:00"},
		{"-1:00", "2000-06-14T23:00:00"}, {"-0:00:01", "2000-06-14T23:59:59"}, {"0:00", "2000-06-15T00:00:00"}, {"0:00:01", "2000-06-15T00:00:01"},
		{"2:30", "2000-06-15T02:30:00"}, {"23:59:59", "2000-06-15T23:59:59"}, {"24:00", "2000-06-16T00:00:00"}, {"24:00:01", "2000-06-16T00:00:01"},
		{"48:00", "2000-06-17T00:00:00"}, {"167:59:59", "2000-06-21T23:59:59"}, {"168:00", "2000-06-22T00:00:00"},
	} {
		checkTexts(t, bookOf("rule A 2000 2000 6 15 "+c.at+"u 0:00 -"), "A", maxOffset, c.want+" 0 -")
		checkTexts(t, bookOf("rule A 2000 2000 6 15 "+c.at+"s 0:00 -"), "A", 0, c.want+" 0 -")
		checkTexts(t, bookOf("rule A 2000 2000 6 15 "+c.at+" 0:00 -"), "A", 0, c.want+" 0 -")
	}
	for _, at := range []int{-maxAt, 1 - maxAt, -dayLength, -1, 0, 1, dayLength, maxAt - 1, maxAt} {
		for _, offset := range []int{-maxOffset, maxOffset} {
			for by := range 3 {
				b := bookOf("rule A 1999 2001 12 31 0:00 1:00 -", "rule A 1999 2001 7 1 0:00 3:00 S")
				for i := range b.Rules {
					b.Rules[i].At, b.Rules[i].By = at, by
				}
				if !checkRules(t, b, "A", offset) {
					t.Errorf("%s: no transitions", show(b))
				}
			}
		}
	}
}

// P14: days that lie in the month before or after, 29 February, and the last
// weekday of a month.
func TestDays(t *testing.T) {
	for _, c := range []struct{ line, want string }{
		{"rule A 2000 2000 1 Sun<=1 0:00 0:00 -", "1999-12-26"}, {"rule A 2000 2000 3 Tue<=1 0:00 0:00 -", "2000-02-29"},
		{"rule A 2001 2001 3 Wed<=1 0:00 0:00 -", "2001-02-28"}, {"rule A 2001 2001 5 Mon<=6 0:00 0:00 -", "2001-04-30"},
		{"rule A 2000 2000 12 Mon>=31 0:00 0:00 -", "2001-01-01"}, {"rule A 2000 2000 2 Wed>=28 0:00 0:00 -", "2000-03-01"},
		{"rule A 2000 2000 2 Tue>=28 0:00 0:00 -", "2000-02-29"}, {"rule A 2000 2000 2 Tue>=23 0:00 0:00 -", "2000-02-29"},
		{"rule A 2004 2004 2 lastSun 0:00 0:00 -", "2004-02-29"}, {"rule A 2001 2001 2 lastWed 0:00 0:00 -", "2001-02-28"},
		{"rule A 2100 2100 2 Mon>=28 0:00 0:00 -", "2100-03-01"}, {"rule A 1900 1900 2 lastWed 0:00 0:00 -", "1900-02-28"},
		{"rule A 2026 2026 11 lastSun 0:00 0:00 -", "2026-11-29"}, {"rule A 2026 2026 11 lastMon 0:00 0:00 -", "2026-11-30"},
		{"rule A 2026 2026 11 lastTue 0:00 0:00 -", "2026-11-24"}, {"rule A 2000 2000 2 28 24:00 0:00 -", "2000-02-29"},
		{"rule A 2001 2001 2 28 24:00 0:00 -", "2001-03-01"}, {"rule A 2000 2000 3 1 -24:00 0:00 -", "2000-02-29"},
	} {
		checkTexts(t, bookOf(c.line), "A", 0, c.want+"T00:00:00 0 -")
	}
	checkTexts(t, bookOf("rule A 1999 2005 2 lastTue 0:00 0:00 -"), "A", 0, "1999-02-23T00:00:00 0 -", "2000-02-29T00:00:00 0 -", "2001-02-27T00:00:00 0 -",
		"2002-02-26T00:00:00 0 -", "2003-02-25T00:00:00 0 -", "2004-02-24T00:00:00 0 -", "2005-02-22T00:00:00 0 -")
}

// P14: every day specification in every month, in years of every kind.
func TestEveryDay(t *testing.T) {
	lengths := [12]int{31, 28, 31, 30, 31, 30, 31, 31, 30, 31, 30, 31}
	for month := 1; month <= 12; month++ {
		var all []api.Day
		for n := 1; n <= lengths[month-1]; n++ {
			all = append(all, api.Day{Kind: 1, N: n})
			for weekday := range 7 {
				all = append(all, api.Day{Kind: 3, Weekday: weekday, N: n}, api.Day{Kind: 4, Weekday: weekday, N: n})
			}
		}
		for weekday := range 7 {
			all = append(all, api.Day{Kind: 2, Weekday: weekday})
		}
		for _, on := range all {
			for _, from := range []int{1900, 1998, 2100} {
				r := api.Rule{Name: "A", From: from, To: min(from+4, 2100), Month: month, On: on, At: 7, Letter: "-"}
				checkRules(t, api.Book{Rules: []api.Rule{r}}, "A", 0)
			}
		}
	}
}

// pick returns any element of a list.
func pick[T any](random *rand.Rand, list ...T) T { return list[random.Intn(len(list))] }

// mixedRules returns rules that lie near each other.
func mixedRules(random *rand.Rand) (b api.Book) {
	for i := range 1 + random.Intn(4) {
		from := 2000 + random.Intn(4)
		on := api.Day{Kind: 1 + random.Intn(4), Weekday: random.Intn(7), N: 1 + random.Intn(28)}
		switch on.Kind {
		case 1:
			on.Weekday = 0
		case 2:
			on.N = 0
		}
		r := api.Rule{Name: "A", From: from, To: from + random.Intn(4), Month: pick(random, 1, 1, 2, 3, 7, 12), On: on, By: random.Intn(3)}
		r.At = pick(random, 0, 0, hour, 2*hour, -hour, dayLength, random.Intn(2*maxAt+1)-maxAt)
		r.Save = pick(random, 0, 0, hour, 2*hour, random.Intn(maxSave+1))
		r.Letter = pick(random, "-", "S", "L"+strconv.Itoa(i))
		b.Rules = append(b.Rules, r)
		if random.Intn(3) == 0 {
			r.By, r.Save, r.Letter = random.Intn(3), pick(random, 0, hour, 2*hour), "D"
			r.At = min(r.At+pick(random, 0, 0, -1, 1, hour, 2*hour), maxAt)
			r.At = max(r.At, -maxAt)
			b.Rules = append(b.Rules, r)
		}
		if random.Intn(4) == 0 {
			r.Name, r.Month = "B", 2
			b.Rules = append(b.Rules, r)
		}
	}
	return b
}

// P14: many books with a few rules, in good order or not.
func TestMixedRules(t *testing.T) {
	random := rand.New(rand.NewSource(14))
	good, bad := 0, 0
	for range 20000 {
		b := mixedRules(random)
		offset := pick(random, 0, hour, -hour, 1, -1, random.Intn(2*maxOffset+1)-maxOffset, maxOffset, -maxOffset)
		if checkRules(t, b, "A", offset) {
			good++
		} else {
			bad++
		}
	}
	if good < 4000 || bad < 4000 {
		t.Errorf("%d books are good, %d are not: too few of a kind", good, bad)
	}
}
