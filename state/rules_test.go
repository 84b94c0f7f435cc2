package state_test

import (
	"math/rand"
	"slices"
	"strconv"
	"testing"

	"timeball/api"
	"timeball/turns"
)

// P15: the second before a transition, that second and the next one, east and
// west, by each of the clocks, with and without a letter.
func TestTransitions(t *testing.T) {
	for _, c := range []struct {
		by      string
		offset  string
		seconds int
		forward string
		back    string
	}{
		{"", "1:00", 3600, "2000-03-31T23:00:00", "2000-09-30T22:00:00"},
		{"s", "1:00", 3600, "2000-03-31T23:00:00", "2000-09-30T23:00:00"},
		{"u", "1:00", 3600, "2000-04-01T00:00:00", "2000-10-01T00:00:00"},
		{"", "-5:00", -18000, "2000-04-01T05:00:00", "2000-10-01T04:00:00"},
		{"s", "-5:00", -18000, "2000-04-01T05:00:00", "2000-10-01T05:00:00"},
		{"u", "-5:00", -18000, "2000-04-01T00:00:00", "2000-10-01T00:00:00"},
		{"", "18:00", 64800, "2000-03-31T06:00:00", "2000-09-30T05:00:00"},
		{"s", "-18:00", -64800, "2000-04-01T18:00:00", "2000-10-01T18:00:00"},
		{"", "0:00:01", 1, "2000-03-31T23:59:59", "2000-09-30T22:59:59"},
	} {
		b := bookOf("rule R 2000 2000 4 1 0:00"+c.by+" 1:00 S", "rule R 2000 2000 10 1 0:00"+c.by+" 0:00 -", "zone A\nera "+c.offset+" R X%T")
		before, after := standard(c.seconds, "XT"), summer(c.seconds+3600, "XST")
		checkSince(t, b, "A", c.forward, before, after)
		checkSince(t, b, "A", c.back, after, before)
		checkType(t, b, "A", firstTime, before)
		checkType(t, b, "A", lastTime, before)
		checkZone(t, b, b.Zones[0])
	}
}

// P15: the letter of the last transition, which may change without the saving,
// and the saving without the letter.
func TestLettersAndSavings(t *testing.T) {
	b := bookOf("rule R 2000 2000 1 1 0:00u 0:00 -", "rule R 2000 2000 2 1 0:00u 1:00 S", "rule R 2000 2000 3 1 0:00u 2:00 S", "rule R 2000 2000 4 1 0:00u 2:00 M",
		"rule R 2000 2000 5 1 0:00u 2:00 -", "rule R 2000 2000 6 1 0:00u 0:00 +-", "rule R 2000 2000 7 1 0:00u 0:00 LongWor", "rule R 2000 2000 8 1 0:00u 0:00:01 x",
		"zone A\nera 1:00 R a%", "zone B\nera 1:00 R A/B", "zone C\nera 1:00 R C")
	for _, c := range []struct {
		stamp, letter string
		save          int
	}{
		{"2000-01-01T00:00:00", "", 0}, {"2000-02-01T00:00:00", "S", 3600}, {"2000-03-01T00:00:00", "S", 7200}, {"2000-04-01T00:00:00", "M", 7200},
		{"2000-05-01T00:00:00", "", 7200}, {"2000-06-01T00:00:00", "+-", 0}, {"2000-07-01T00:00:00", "LongWor", 0}, {"2000-08-01T00:00:00", "x", 1},
	} {
		for _, add := range []int{0, 1, 28 * dayLength} {
			at, isSummer := timeOf(c.stamp)+add, c.save > 0
			two := "A"
			if isSummer {
				two = "B"
			}
			checkType(t, b, "A", at, api.Type{Offset: 3600 + c.save, Save: isSummer, Name: "a" + c.letter})
			checkType(t, b, "B", at, api.Type{Offset: 3600 + c.save, Save: isSummer, Name: two})
			checkType(t, b, "C", at, api.Type{Offset: 3600 + c.save, Save: isSummer, Name: "C"})
		}
	}
	checkType(t, b, "A", lastTime, summer(3601, "ax"))
}

// P15: before the first transition, the saving is 0; the letter is that of the
// first transition with a Save of 0, whichever rule is listed first, or '-'.
func TestBeforeTheFirstTransition(t *testing.T) {
	for _, c := range []struct {
		rules []string
		want  string
	}{
		// The first transition has a Save of 0.
		{[]string{"rule R 2000 2000 4 1 0:00 0:00 A", "rule R 2000 2000 5 1 0:00 1:00 B", "rule R 2000 2000 6 1 0:00 0:00 C"}, "xA"},
		{[]string{"rule R 2000 2000 4 1 0:00 0:00 A"}, "xA"},
		{[]string{"rule R 2000 2000 4 1 0:00 0:00 -", "rule R 2000 2000 6 1 0:00 0:00 C"}, "x"},
		// Only a later one.
		{[]string{"rule R 2000 2000 4 1 0:00 1:00 A", "rule R 2000 2000 5 1 0:00 0:00 B", "rule R 2000 2000 6 1 0:00 0:00 C"}, "xB"},
		{[]string{"rule R 2000 2000 4 1 0:00 0:00:01 A", "rule R 2000 2000 5 1 0:00 2:00 B", "rule R 2000 2000 6 1 0:00 0:00 C"}, "xC"},
		{[]string{"rule R 1900 2099 4 1 0:00 1:00 A", "rule R 2100 2100 12 1 0:00 0:00 Z"}, "xZ"},
		{[]string{"rule R 2000 2000 4 1 0:00 1:00 A", "rule R 2000 2000 5 1 0:00 0:00 -", "rule R 2000 2000 6 1 0:00 0:00 C"}, "x"},
		// None.
		{[]string{"rule R 2000 2000 4 1 0:00 1:00 A"}, "x"},
		{[]string{"rule R 2000 2002 4 1 0:00 1:00 A", "rule R 2000 2000 5 1 0:00 0:00:01 B", "rule R 2000 2000 6 1 0:00 3:00 C"}, "x"},
		// Rules with another name say nothing.
		{[]string{"rule R 2000 2000 4 1 0:00 1:00 A", "rule S 2000 2000 3 1 0:00 0:00 B", "rule r 2000 2000 3 1 0:00 0:00 B"}, "x"},
		{[]string{"rule R 2000 2000 4 1 0:00 1:00 A", "rule S 1900 1900 3 1 0:00 0:00 B", "rule R 2000 2000 5 1 0:00 0:00 C"}, "xC"},
	} {
		for _, backward := range []bool{false, true} {
			b := bookOf(append(c.rules[:len(c.rules):len(c.rules)], "zone A\nera -1:00 R x%", "zone B\nera -1:00 R B/C")...)
			if backward {
				slices.Reverse(b.Rules)
			}
			for _, stamp := range []string{"1600-01-01T00:00:00", "1850-01-01T00:00:00", "1900-04-01T00:59:59"} {
				checkStamps(t, b, "A", map[string]api.Type{stamp: standard(-3600, c.want)})
				checkStamps(t, b, "B", map[string]api.Type{stamp: standard(-3600, "B")})
			}
			checkZone(t, b, b.Zones[0])
			checkZone(t, b, b.Zones[1])
		}
	}
}

// P15: transitions before an era count in it, and those after its end for its
// letter.
func TestTransitionsOutsideOfTheEra(t *testing.T) {
	rules := "rule R 2000 2000 1 1 0:00u 0:00 A\nrule R 2000 2000 4 1 0:00u 1:00 B\nrule R 2000 2000 10 1 0:00u 0:00 C"
	for _, c := range []struct {
		from, to string // of the era with rules
		stamp    string
		want     api.Type
	}{
		{"1990-01-01T00:00:00", "1999-12-31T00:00:00", "1990-01-01T00:00:00", standard(7200, "xA")},
		{"1990-01-01T00:00:00", "1999-12-31T00:00:00", "1999-12-30T23:59:59", standard(7200, "xA")},
		{"2000-03-01T00:00:00", "2000-03-02T00:00:00", "2000-03-01T00:00:00", standard(7200, "xA")},
		{"2000-06-01T00:00:00", "2000-07-01T00:00:00", "2000-06-01T00:00:00", summer(10800, "xB")},
		{"2000-06-01T00:00:00", "2000-07-01T00:00:00", "2000-06-30T23:59:59", summer(10800, "xB")},
		{"2000-04-01T00:00:00", "2000-10-01T00:00:00", "2000-04-01T00:00:00", summer(10800, "xB")},
		{"2000-04-01T00:00:00", "2000-10-01T00:00:00", "2000-09-30T23:59:59", summer(10800, "xB")},
		{"2000-03-31T23:59:59", "2000-10-01T00:00:01", "2000-03-31T23:59:59", standard(7200, "xA")},
		{"2000-03-31T23:59:59", "2000-10-01T00:00:01", "2000-04-01T00:00:00", summer(10800, "xB")},
		{"2000-03-31T23:59:59", "2000-10-01T00:00:01", "2000-10-01T00:00:00", standard(7200, "xC")},
		{"2000-06-01T00:00:00", "2100-07-01T00:00:00", "2000-10-01T00:00:00", standard(7200, "xC")},
		{"2050-06-01T00:00:00", "2100-07-01T00:00:00", "2050-06-01T00:00:00", standard(7200, "xC")},
		{"2050-06-01T00:00:00", "2100-07-01T00:00:00", "2100-06-30T23:59:59", standard(7200, "xC")},
	} {
		b := bookOf(rules, "zone A\nera 1:00 -0:00 Before "+c.from+"\nera 2:00 R x% "+c.to+"\nera 3:00 -0:00 After")
		checkStamps(t, b, "A", map[string]api.Type{c.stamp: c.want})
		checkType(t, b, "A", timeOf(c.from)-1, standard(3600, "Before"))
		checkType(t, b, "A", timeOf(c.to), standard(10800, "After"))
		checkZone(t, b, b.Zones[0], timeOf(c.stamp))
	}
}

// P15: each era has the transitions of its own rules and its own offset.
func TestRulesAndOffsetOfTheEra(t *testing.T) {
	b := bookOf("rule R 2000 2002 4 1 0:00s 1:00 R", "rule S 2000 2002 4 1 0:00s 2:00 S", "rule R 2000 2002 10 1 0:00s 0:00 -", "rule S 2000 2002 11 1 0:00s 0:00 T",
		"zone A\nera 1:00 R a% 2000-06-01T00:00:00\nera 1:00 S b% 2000-10-15T00:00:00\nera -4:00 R c% 2001-04-01T00:00:00\nera 5:00 R d% 2002-04-01T00:00:00\nera -6:00 S e/f")
	for _, c := range []struct {
		stamp         string
		before, after api.Type
	}{
		{"2000-03-31T23:00:00", standard(3600, "a"), summer(7200, "aR")},
		{"2000-06-01T00:00:00", summer(7200, "aR"), summer(10800, "bS")},
		{"2000-09-30T23:00:00", summer(10800, "bS"), summer(10800, "bS")},
		{"2000-10-15T00:00:00", summer(10800, "bS"), standard(-14400, "c")},
		{"2001-03-31T19:00:00", standard(-14400, "c"), standard(-14400, "c")},
		{"2001-04-01T00:00:00", standard(-14400, "c"), summer(21600, "dR")},
		{"2001-09-30T19:00:00", summer(21600, "dR"), standard(18000, "d")},
		{"2002-03-31T19:00:00", standard(18000, "d"), summer(21600, "dR")},
		{"2002-04-01T00:00:00", summer(21600, "dR"), standard(-21600, "e")},
		{"2002-04-01T06:00:00", standard(-21600, "e"), summer(-14400, "f")},
		{"2002-11-01T06:00:00", summer(-14400, "f"), standard(-21600, "e")},
	} {
		checkSince(t, b, "A", c.stamp, c.before, c.after)
	}
	checkZone(t, b, b.Zones[0])
}

// P15: rules for 1500 years, at the first transitions, at the last ones and at
// some in between.
func TestMostTransitions(t *testing.T) {
	b := manyYears("R", maxYears, 8)
	b.Zones = []api.Zone{{Name: "A", Eras: []api.Era{{Offset: -hour, Rules: "R", Format: "x%"}}}}
	for i := range b.Rules {
		b.Rules[i].Save, b.Rules[i].Letter = i%3*hour, string(rune('A'+i))
	}
	list, e := turns.Of(b, "R", -hour)
	if len(list) != maxYears || e != api.OK {
		t.Fatalf("%d transitions, error %d", len(list), e)
	}
	before := standard(-hour, "xA")
	for i, turn := range list {
		after := api.Type{Offset: turn.Save - hour, Save: turn.Save > 0, Name: "x" + turn.Letter}
		if i < 20 || i >= maxYears-20 || i%17 == 0 {
			checkType(t, b, "A", turn.At-1, before)
			checkType(t, b, "A", turn.At, after)
			checkType(t, b, "A", turn.At+1, after)
		}
		before = after
	}
	checkType(t, b, "A", firstTime, standard(-hour, "xA"))
	checkType(t, b, "A", lastTime, before)
}

// pick returns any element of a list.
func pick[T any](random *rand.Rand, list ...T) T { return list[random.Intn(len(list))] }

// mixedRules returns rules with a few names, some of which may be in conflict.
func mixedRules(random *rand.Rand) (rules []api.Rule) {
	for range 1 + random.Intn(5) {
		from := 1995 + random.Intn(10)
		r := api.Rule{
			Name: pick(random, "R", "R", "S"), From: from, To: from + random.Intn(4), Month: 1 + random.Intn(12), On: api.Day{Kind: 1, N: 1 + random.Intn(28)},
			At: pick(random, 0, hour, random.Intn(2*maxAt+1)-maxAt), By: random.Intn(3), Save: pick(random, 0, 0, hour, random.Intn(maxSave+1)),
			Letter: pick(random, "-", "S", "D", "M+1"),
		}
		rules = append(rules, r)
		if random.Intn(8) == 0 {
			// On the same day, the order depends on the clock and the offset.
			r.By, r.Save, r.Letter = random.Intn(3), pick(random, 0, hour), "X"
			rules = append(rules, r)
		}
	}
	return rules
}

// mixedZone returns a zone of a few eras, with some of the rules and without.
func mixedZone(random *rand.Rand, name string, rules []api.Rule) (z api.Zone) {
	z.Name = name
	until := timeOf("1994-01-01T00:00:00")
	for range 1 + random.Intn(5) {
		until += 1 + random.Intn(pick(random, 1, 2*hour, 4*365*dayLength))
		era := api.Era{Offset: random.Intn(2*maxOffset+1) - maxOffset, Until: until}
		era.Format = pick(random, "LMT", "A/B", "x%", "%y", "x%y") + strconv.Itoa(len(z.Eras))
		if random.Intn(3) > 0 {
			era.Rules = pick(random, rules...).Name
		} else {
			era.Save = pick(random, 0, 0, hour, random.Intn(maxSave+1))
		}
		z.Eras = append(z.Eras, era)
	}
	z.Eras[len(z.Eras)-1].Until = 0
	return z
}

// P15: many books with a few rules, eras, zones and links, in good order or not.
func TestMixedBooks(t *testing.T) {
	random := rand.New(rand.NewSource(15))
	types, bad, both := 0, 0, 0
	for range 600 {
		b := api.Book{Rules: mixedRules(random)}
		for _, name := range []string{"A", "B", "C"} {
			b.Zones = append(b.Zones, mixedZone(random, name, b.Rules))
		}
		b.Links = []api.Link{{Name: "L", To: "M"}, {Name: "M", To: "B"}}
		for _, zone := range b.Zones {
			good, failed := checkZone(t, b, zone, random.Intn(1<<31), -random.Intn(1<<33))
			types += good
			if failed > 0 {
				bad++
			}
			if good > 0 && failed > 0 {
				both++
			}
		}
		at := timeOf("1995-01-01T00:00:00") + random.Intn(10*365*dayLength)
		if want, e := expected(b, b.Zones[1], at); e == api.OK {
			checkType(t, b, "L", at, want)
			checkType(t, b, "M", at, want)
		}
	}
	if types < 10000 || bad < 200 || both < 100 {
		t.Errorf("%d types, %d zones with errors, %d of them with types: too few of a kind", types, bad, both)
	}
}
