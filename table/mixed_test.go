package table_test

import (
	"math/rand"
	"strconv"
	"testing"

	"timeball/api"
	"timeball/names"
	"timeball/state"
	"timeball/table"
)

// pick returns any element of a list.
func pick[T any](random *rand.Rand, list ...T) T { return list[random.Intn(len(list))] }

// mixedRules returns rules with two names, some of which may be in conflict.
func mixedRules(random *rand.Rand) (rules []api.Rule) {
	for range 1 + random.Intn(5) {
		from := 1995 + random.Intn(10)
		r := api.Rule{
			Name: pick(random, "R", "R", "S"), From: from, To: from + random.Intn(4), Month: 1 + random.Intn(12), On: api.Day{Kind: 1, N: 1 + random.Intn(28)},
			At: pick(random, 0, hour, random.Intn(2*maxAt+1)-maxAt), By: random.Intn(3), Save: pick(random, 0, 0, hour, random.Intn(maxSave+1)),
			Letter: pick(random, "-", "S", "D", "M+1"),
		}
		rules = append(rules, r)
		if random.Intn(20) == 0 {
			// On the same day, the order depends on the clock and the offset.
			r.By, r.Save, r.Letter = random.Intn(3), pick(random, 0, hour), "X"
			rules = append(rules, r)
		}
	}
	return rules
}

// mixedZone returns a zone of a few eras, with some of the rules and without;
// the types of some eras are alike.
func mixedZone(random *rand.Rand, name string, rules []api.Rule) (z api.Zone) {
	z.Name = name
	until := timeOf("1994-01-01T00:00:00")
	for range 1 + random.Intn(6) {
		until += 1 + random.Intn(pick(random, 1, 2*hour, 4*365*dayLength))
		era := api.Era{Offset: pick(random, 0, hour, hour, 2*hour, random.Intn(2*maxOffset+1)-maxOffset), Until: until}
		era.Format = pick(random, "A", "A/B", "x%", "x%", "x%y"+strconv.Itoa(len(z.Eras)))
		if random.Intn(3) > 0 {
			era.Rules = pick(random, rules...).Name
		} else {
			era.Save = pick(random, 0, 0, hour, random.Intn(maxSave+1))
		}
		z.Eras = append(z.Eras, era)
	}
	z.Eras[len(z.Eras)-1].Until = 0
	return z
}

// someSpans returns spans of a zone: between times at which it may change, one
// second around each, and any.
func someSpans(random *rand.Rand, times []int) []api.Span {
	spans := []api.Span{always}
	for range 12 {
		from := pick(random, times...) + random.Intn(3) - 1
		to := pick(random, times...) + random.Intn(3) - 1
		spans = append(spans, api.Span{From: min(from, to), To: max(from, to)})
	}
	for range 4 {
		from := timeOf("1993-01-01T00:00:00") + random.Intn(15*365*dayLength)
		spans = append(spans, api.Span{From: from, To: from + 1 + random.Intn(pick(random, 3, dayLength, 5*365*dayLength))})
	}
	return spans
}

// P17: many books with a few rules, eras, zones and links, in good order or not.
func TestMixedBooks(t *testing.T) {
	random := rand.New(rand.NewSource(17))
	count := map[api.Errno]int{}
	for range 700 {
		b := api.Book{Rules: mixedRules(random)}
		for _, name := range []string{"A", "B"} {
			b.Zones = append(b.Zones, mixedZone(random, name, b.Rules))
		}
		b.Links = []api.Link{{Name: "L", To: "M"}, {Name: "M", To: "B"}}
		for _, name := range []string{"A", "L"} {
			zone, e := names.Resolve(b, name)
			if e != api.OK {
				t.Fatalf("%s is no book: error %d", show(b), e)
			}
			times, _ := candidates(b, zone)
			for _, s := range someSpans(random, append(times, 0)) {
				count[checkMake(t, b, name, s)]++
			}
		}
	}
	if count[api.OK] < 8000 || count[api.ErrForm] < 1000 || count[api.ErrArg] < 50 {
		t.Errorf("too few of a kind: %v", count)
	}
}

// P17: at any time of a span, table.At says what state.At says.
func TestAnyTime(t *testing.T) {
	random := rand.New(rand.NewSource(9))
	checked := 0
	for range 300 {
		b := api.Book{Rules: mixedRules(random)}
		b.Zones = []api.Zone{mixedZone(random, "A", b.Rules)}
		s := pick(random, always, spanOf("1995-01-01T00:00:00", "2005-01-01T00:00:00"), spanOf("1999-06-01T12:34:56", "2001-01-01T00:00:00"))
		x, e := table.Make(b, "A", s)
		if e != api.OK {
			continue
		}
		for range 60 {
			at := s.From + random.Intn(s.To-s.From)
			want, e := state.At(b, "A", at)
			if e != api.OK {
				t.Fatalf("no type at %d: error %d", at, e)
			}
			checkAt(t, x, at, want)
			checked++
		}
		for _, at := range []int{s.From, s.To - 1} {
			want, _ := state.At(b, "A", at)
			checkAt(t, x, at, want)
		}
	}
	if checked < 10000 {
		t.Errorf("only %d times were checked", checked)
	}
}

// P17: all spans between the times at which a zone may change, and the seconds
// around them.
func TestSpansAroundChanges(t *testing.T) {
	b := bookOf("rule R 2000 2001 4 1 0:00 1:00 S", "rule R 2000 2001 10 1 0:00 0:00 -", "rule T 2000 2001 3 1 0:00s 1:00 -", "rule T 2000 2001 11 1 0:00s 0:00 W",
		"zone A\nera 1:00 R x% 2000-07-01T00:00:00\nera 1:00 T A/B 2001-03-01T00:00:00\nera 2:00 -0:00 C 2001-07-01T00:00:00\nera 1:00 R x%",
		"zone B\nera -5:00 T A%", "zone C\nera 1:00 -0:00 A 2000-01-01T00:00:00\nera 1:00 -0:00 A 2000-01-01T00:00:01\nera 1:00 -1:00 B")
	for _, zone := range b.Zones {
		times, e := candidates(b, zone)
		if e != api.OK {
			t.Fatal(e)
		}
		var ends []int
		for _, at := range append(times, firstTime+1, lastTime-1) {
			ends = append(ends, at-1, at, at+1)
		}
		for _, from := range ends {
			for _, to := range ends {
				want := api.OK
				if to <= from {
					want = api.ErrArg
				}
				if e := checkMake(t, b, zone.Name, api.Span{From: from, To: to}); e != want {
					t.Errorf("the span from %d to %d of %s: %d, want %d", from, to, zone.Name, e, want)
				}
			}
		}
	}
}
