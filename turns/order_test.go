package turns_test

import (
	"math/rand"
	"slices"
	"strconv"
	"testing"

	"timeball/api"
	"timeball/turns"
)

// P14: the nominal times give the order, across the years.
func TestOrderAcrossYears(t *testing.T) {
	// The rules of January lead into December, those of December into January.
	for _, lines := range [][]string{
		{"rule A 2000 2002 12 28 0:00u 0:00 -", "rule A 2000 2002 1 1 -168:00u 1:00 S"},
		{"rule A 2000 2002 1 1 -168:00u 1:00 S", "rule A 2000 2002 12 28 0:00u 0:00 -"},
	} {
		checkTexts(t, bookOf(lines...), "A", 0, "1999-12-25T00:00:00 3600 S", "2000-12-25T00:00:00 3600 S", "2000-12-28T00:00:00 0 -",
			"2001-12-25T00:00:00 3600 S", "2001-12-28T00:00:00 0 -", "2002-12-28T00:00:00 0 -")
	}
	checkTexts(t, bookOf("rule A 2000 2001 12 31 168:00u 1:00 S", "rule A 2001 2002 1 5 0:00u 0:00 -"), "A", 0,
		"2001-01-05T00:00:00 0 -", "2001-01-07T00:00:00 3600 S", "2002-01-05T00:00:00 0 -", "2002-01-07T00:00:00 3600 S")
	// The days are in one order, and the times of day turn it round.
	for _, lines := range [][]string{
		{"rule A 2000 2000 6 15 168:00u 1:00 S", "rule A 2000 2000 6 20 0:00u 0:00 -"},
		{"rule A 2000 2000 6 20 0:00u 0:00 -", "rule A 2000 2000 6 15 168:00u 1:00 S"},
	} {
		checkTexts(t, bookOf(lines...), "A", 0, "2000-06-20T00:00:00 0 -", "2000-06-22T00:00:00 3600 S")
	}
	// The weekdays give one order in 2000 and another one in 2001 and 2002.
	for _, lines := range [][]string{
		{"rule A 2000 2002 4 Sun>=1 0:00 0:10 S", "rule A 2000 2002 4 5 0:00 0:00 -"},
		{"rule A 2000 2002 4 5 0:00 0:00 -", "rule A 2000 2002 4 Sun>=1 0:00 0:10 S"},
	} {
		checkTexts(t, bookOf(lines...), "A", 0, "2000-04-02T00:00:00 600 S", "2000-04-04T23:50:00 0 -", "2001-04-01T00:00:00 600 S",
			"2001-04-04T23:50:00 0 -", "2002-04-05T00:00:00 0 -", "2002-04-07T00:00:00 600 S")
	}
	// Whole groups of years follow each other.
	checkTexts(t, bookOf("rule A 2000 2001 5 1 0:00 0:00 c", "rule A 1990 1991 5 1 0:00 0:00 b", "rule A 2010 2010 5 1 0:00 0:00 d", "rule A 1980 1980 5 1 0:00 0:00 a"), "A", 0,
		"1980-05-01T00:00:00 0 a", "1990-05-01T00:00:00 0 b", "1991-05-01T00:00:00 0 b", "2000-05-01T00:00:00 0 c", "2001-05-01T00:00:00 0 c", "2010-05-01T00:00:00 0 d")
}

// P14: forty rules in every kind of order.
func TestOrderOfManyRules(t *testing.T) {
	var sorted []string
	for i := range maxRules {
		at := strconv.Itoa(i%3) + ":" + strconv.Itoa(10+i)
		sorted = append(sorted, "rule A 1990 2026 "+strconv.Itoa(1+i*12/maxRules)+" "+strconv.Itoa(1+i%28)+" "+at+" 0:00 L"+strconv.Itoa(i))
	}
	want := expected(bookOf(sorted...), "A", hour)
	if len(want) != 37*maxRules {
		t.Fatalf("%d transitions", len(want))
	}
	random := rand.New(rand.NewSource(40))
	lines := slices.Clone(sorted)
	slices.Reverse(lines)
	for range 50 {
		b := bookOf(lines...)
		if list, e := turns.Of(b, "A", hour); !slices.Equal(list, want) || e != api.OK {
			t.Errorf("Of(%s) = %s, %d", show(b), show(texts(list)), e)
		}
		random.Shuffle(len(lines), func(i, k int) { lines[i], lines[k] = lines[k], lines[i] })
	}
}

// P14: two and three rules with equal nominal times keep their order. Each time
// is greater than the one before in that order alone.
func TestEqualNominalTimes(t *testing.T) {
	universal, standard, wall := "rule A 2000 2001 4 1 2:00u 0:20 U", "rule A 2000 2001 4 1 2:00s 0:00 -", "rule A 2000 2001 4 1 2:00 0:30 W"
	checkTexts(t, bookOf(universal, standard), "A", -hour,
		"2000-04-01T02:00:00 1200 U", "2000-04-01T03:00:00 0 -", "2001-04-01T02:00:00 1200 U", "2001-04-01T03:00:00 0 -")
	checkError(t, bookOf(standard, universal), "A", -hour, api.ErrForm)
	checkTexts(t, bookOf(standard, universal), "A", hour,
		"2000-04-01T01:00:00 0 -", "2000-04-01T02:00:00 1200 U", "2001-04-01T01:00:00 0 -", "2001-04-01T02:00:00 1200 U")
	checkError(t, bookOf(universal, standard), "A", hour, api.ErrForm)
	checkTexts(t, bookOf(universal, wall, standard), "A", -hour,
		"2000-04-01T02:00:00 1200 U", "2000-04-01T02:40:00 1800 W", "2000-04-01T03:00:00 0 -",
		"2001-04-01T02:00:00 1200 U", "2001-04-01T02:40:00 1800 W", "2001-04-01T03:00:00 0 -")
	for _, lines := range [][]string{{universal, standard, wall}, {wall, universal, standard}, {wall, standard, universal}, {standard, wall, universal}, {standard, universal, wall}} {
		checkError(t, bookOf(lines...), "A", -hour, api.ErrForm)
	}
	// The days differ, and the times of day make up for it; rules of another
	// name stand between.
	first, second := "rule A 2000 2000 4 1 26:00u 0:00 a", "rule A 2000 2000 4 2 2:00s 0:00 b"
	checkTexts(t, bookOf(first, second), "A", -1, "2000-04-02T02:00:00 0 a", "2000-04-02T02:00:01 0 b")
	checkTexts(t, bookOf("rule B 2000 2000 4 2 2:00 0:00 -", first, "rule B 2000 2000 4 2 2:00 0:00 -", second), "A", -1, "2000-04-02T02:00:00 0 a", "2000-04-02T02:00:01 0 b")
	checkTexts(t, bookOf(second, first), "A", 1, "2000-04-02T01:59:59 0 b", "2000-04-02T02:00:00 0 a")
	checkError(t, bookOf(second, first), "A", -1, api.ErrForm)
	checkError(t, bookOf(first, second), "A", 1, api.ErrForm)
	// The nominal times are equal, and so are the times.
	for _, offset := range []int{-1, 0, 1} {
		for _, by := range []string{"", "s", "u"} {
			line := "rule A 2000 2000 4 1 2:00" + by + " 0:00 "
			checkError(t, bookOf(line+"a", line+"b"), "A", offset, api.ErrForm)
			checkError(t, bookOf(line+"-", line+"-"), "A", offset, api.ErrForm)
			checkError(t, bookOf(line+"-", line+"-", "rule A 1990 1990 4 1 2:00 0:00 -"), "A", offset, api.ErrForm)
		}
	}
	checkError(t, bookOf(first, second), "A", 0, api.ErrForm)
	checkError(t, bookOf(second, first), "A", 0, api.ErrForm)
}

// P14: many rules with equal nominal times keep their order: the saving becomes
// less from rule to rule, so that wall clocks increase in that order alone.
func TestManyEqualNominalTimes(t *testing.T) {
	for n := 2; n < maxRules; n++ {
		b := bookOf("rule A 2000 2036 1 1 0:00 3:00 -")
		for i := range n {
			r := ruleOf("rule A 2000 2036 7 1 12:00 0:00 -")
			// The same nominal time, from another day in the month.
			r.On.N, r.At = 1+i%4, r.At-dayLength*(i%4)
			r.Save, r.Letter = maxSave-100-100*i, "L"+strconv.Itoa(i)
			b.Rules = append(b.Rules, r)
		}
		for _, at := range []int{0, n / 2, n} {
			// The rule of January may stand anywhere.
			c := api.Book{Rules: slices.Insert(slices.Clone(b.Rules[1:]), at, b.Rules[0])}
			list, e := turns.Of(c, "A", 5*hour)
			if len(list) != 37*(n+1) || e != api.OK {
				t.Fatalf("%d rules: %s, %d", n, show(texts(list)), e)
			}
			for i, turn := range list {
				if place := i % (n + 1); place > 0 && turn.Letter != "L"+strconv.Itoa(place-1) {
					t.Errorf("%d rules: transition %d is %v", n, i, turn)
				}
			}
			checkRules(t, c, "A", 5*hour)
		}
		for i := 1; i < n-1; i++ {
			c := api.Book{Rules: slices.Clone(b.Rules)}
			c.Rules[i], c.Rules[i+1] = c.Rules[i+1], c.Rules[i]
			checkError(t, c, "A", 5*hour, api.ErrForm)
		}
	}
}

// P14: where the nominal times are ordered, the times may be equal, or one less
// or one greater.
func TestNearTimes(t *testing.T) {
	for _, c := range []struct {
		byFirst, bySecond, save, offset int
		apart                           int // of the nominal times, when the times are equal
	}{
		{0, 0, 3600, 0, 3600}, {0, 0, 10800, -64800, 10800}, {0, 0, 1, 64800, 1}, {1, 1, 3600, 3600, 0}, {2, 2, 3600, 3600, 0},
		{2, 0, 3600, 7200, 10800}, {2, 0, 0, 1, 1}, {2, 0, 3600, -3600, 0}, {2, 1, 3600, 7200, 7200}, {2, 1, 0, 64800, 64800},
		{1, 0, 1800, 7200, 1800}, {1, 0, 10800, -7200, 10800}, {1, 2, 3600, -7200, 7200}, {0, 2, 3600, -64800, 64800}, {0, 1, 3600, 0, 0},
		{2, 0, 10800, 64800, 75600}, {0, 2, 0, -1, 1},
	} {
		for _, delta := range []int{-2, -1, 0, 1, 2} {
			b := bookOf("rule A 2000 2000 4 1 12:00 0:00 a", "rule A 2000 2000 4 1 12:00 0:00 b")
			b.Rules[0].By, b.Rules[1].By, b.Rules[0].Save = c.byFirst, c.bySecond, c.save
			b.Rules[1].At += c.apart + delta
			if c.apart+delta < 0 {
				continue // the nominal times would be in the other order
			}
			checkNear(t, b, c.offset, delta)
			// Other transitions, before and after, change nothing.
			before, after := ruleOf("rule A 1990 2000 1 1 0:00 0:00 c"), ruleOf("rule A 2000 2010 12 1 0:00 0:00 d")
			checkNear(t, api.Book{Rules: append(slices.Clone(b.Rules), before, after)}, c.offset, delta)
			checkNear(t, api.Book{Rules: append([]api.Rule{after, before}, b.Rules...)}, c.offset, delta)
		}
	}
}

func checkNear(t *testing.T, b api.Book, offset, delta int) {
	t.Helper()
	if delta <= 0 {
		checkError(t, b, "A", offset, api.ErrForm)
		return
	}
	list, e := turns.Of(b, "A", offset)
	i := slices.IndexFunc(list, func(turn api.Turn) bool { return turn.Letter == "a" })
	if i < 0 || list[i+1].Letter != "b" || list[i+1].At-list[i].At != delta || e != api.OK {
		t.Errorf("Of(%s, %d) = %s, %d, want times %d apart", show(b), offset, show(texts(list)), e, delta)
	}
	checkRules(t, b, "A", offset)
}

// P14: the clocks, or the saving of the preceding transition, turn the order
// round: the nominal times count, in whichever order the rules are listed.
func TestTurnedRound(t *testing.T) {
	for _, c := range []struct {
		first, second string
		good, bad     int // offsets
	}{
		{"rule A 2000 2000 4 1 2:00u 1:00 S", "rule A 2000 2000 4 1 3:00 0:00 -", -1, 0},
		{"rule A 2000 2000 4 1 2:00u 1:00 S", "rule A 2000 2000 4 1 3:00s 0:00 -", 3599, 3601},
		{"rule A 2000 2000 4 1 2:00s 1:00 S", "rule A 2000 2000 4 1 3:00u 0:00 -", -3599, -3601},
		{"rule A 2000 2000 4 1 2:00 1:00 S", "rule A 2000 2000 4 1 3:00u 0:00 -", -3599, -3600},
		{"rule A 2000 2000 4 1 2:00u 0:00 S", "rule A 2000 2000 4 1 20:00 0:00 -", 64799, 64800},
		{"rule A 2000 2000 4 1 2:00 0:00 S", "rule A 2000 2000 4 1 20:00u 0:00 -", -64799, -64800},
	} {
		for _, lines := range [][]string{{c.first, c.second}, {c.second, c.first}} {
			b := bookOf(lines...)
			if !checkRules(t, b, "A", c.good) {
				t.Errorf("%q: no transitions for the offset %d", lines, c.good)
			}
			checkError(t, b, "A", c.bad, api.ErrForm)
			// One of many years is enough.
			b.Rules = append(b.Rules, ruleOf("rule A 1990 2010 9 1 0:00 0:00 m"))
			if !checkRules(t, b, "A", c.good) {
				t.Errorf("%q and more: no transitions for the offset %d", lines, c.good)
			}
			checkError(t, b, "A", c.bad, api.ErrForm)
		}
	}
	// A saving of three hours makes a wall clock fall back behind a transition
	// by any other clock.
	for _, by := range []string{"", "s", "u"} {
		for _, lines := range [][]string{
			{"rule A 2000 2000 4 1 2:00" + by + " 3:00 S", "rule A 2000 2000 4 1 4:00 0:00 -"},
			{"rule A 2000 2000 4 1 4:00 0:00 -", "rule A 2000 2000 4 1 2:00" + by + " 3:00 S"},
		} {
			checkError(t, bookOf(lines...), "A", 0, api.ErrForm)
		}
	}
	// In 1998 alone, the Sunday is the day of the other rule.
	b := bookOf("rule A 1995 2005 4 Sun>=1 2:00 1:00 S", "rule A 1995 2005 4 5 3:00 0:00 -", "rule A 1995 2005 10 1 0:00 0:00 -")
	checkError(t, b, "A", 0, api.ErrForm)
	for i := range b.Rules {
		b.Rules[i].From = 1999
	}
	if !checkRules(t, b, "A", 0) {
		t.Error("no transitions from 1999 on")
	}
}

// P14: transitions that do not increase at the beginning, in the middle and at
// the end of a long list.
func TestWhereTimesDoNotIncrease(t *testing.T) {
	for year := firstYear; year <= lastYear; year++ {
		y := strconv.Itoa(year)
		b := bookOf("rule A 1900 2100 3 lastSun 2:00 1:00 S", "rule A 1900 2100 10 lastSun 2:00 0:00 -", "rule A "+y+" "+y+" 3 lastSun 3:00 0:30 T")
		checkError(t, b, "A", hour, api.ErrForm)
		b.Rules[2].At++
		if list, e := turns.Of(b, "A", hour); len(list) != 403 || e != api.OK {
			t.Errorf("%d: %d transitions, error %d", year, len(list), e)
		}
		checkRules(t, b, "A", hour)
		checkRules(t, b, "A", -maxOffset)
	}
}
