package state_test

import (
	"strconv"
	"testing"

	"timeball/api"
)

// P15: the second before the Until of an era, that second and the next one.
func TestUntil(t *testing.T) {
	b := bookOf("zone A", "era -1:00 -0:00 First 1900-02-28T23:59:59", "era 2:00 -1:00 Second 1969-12-31T23:59:59", "era 3:00 -0:00 Third 1970-01-01T00:00:00",
		"era 4:00 -0:00 Fourth 1970-01-01T00:00:01", "era 5:00 -0:30 Fifth 1970-01-01T00:00:03", "era 6:00 -0:00 Last")
	first, second, last := standard(-3600, "First"), summer(10800, "Second"), standard(21600, "Last")
	checkSince(t, b, "A", "1900-02-28T23:59:59", first, second)
	for at, want := range map[int]api.Type{
		firstTime: first, -3: second, -2: second, -1: standard(10800, "Third"), 0: standard(14400, "Fourth"), 1: summer(19800, "Fifth"), 2: summer(19800, "Fifth"),
		3: last, 4: last, 1 << 30: last, 1 << 31: last, 1 << 32: last, lastTime: last,
	} {
		checkType(t, b, "A", at, want)
	}
	checkZone(t, b, b.Zones[0])
}

// P15: the last era applies at any later time, before 1970 and after it: its
// Until of 0 says nothing.
func TestLastEra(t *testing.T) {
	for _, until := range []int{firstTime, -1 << 33, -2, -1, 0, 1, 2, 1 << 33, lastTime} {
		b := bookOf("zone A\nera 1:00 -0:00 A 1970-01-01T00:00:00\nera 2:00 -0:00 B")
		b.Zones[0].Eras[0].Until = until
		for _, at := range []int{firstTime, firstTime + 1, -1 << 33, -3, -2, -1, 0, 1, 2, 3, 1 << 33, lastTime - 1, lastTime} {
			want := standard(7200, "B")
			if at < until {
				want = standard(3600, "A")
			}
			checkType(t, b, "A", at, want)
		}
		checkZone(t, b, b.Zones[0])
	}
}

// P15: as many eras as there may be, with and without rules.
func TestManyEras(t *testing.T) {
	for _, count := range []int{2, 3, 50, maxEras - 1, maxEras} {
		for _, step := range []int{1, 2, 1000, dayLength * 100} {
			b := bookOf("rule R 1960 2090 3 lastSun 1:00u 1:00 S", "rule R 1960 2090 10 lastSun 1:00 0:00 -", "zone A\nera 0:00 -0:00 A")
			b.Zones[0].Eras = nil
			for i := range count {
				b.Zones[0].Eras = append(b.Zones[0].Eras, api.Era{Offset: i - count/2, Format: "E" + strconv.Itoa(i), Until: (i - count/2) * step})
			}
			b.Zones[0].Eras[count/3].Rules = "R"
			b.Zones[0].Eras[count-1].Until = 0
			for i := range min(count, 40) {
				era := b.Zones[0].Eras[i*count/min(count, 40)]
				for _, at := range []int{era.Until - 1, era.Until, era.Until + 1} {
					want, _ := expected(b, b.Zones[0], at)
					checkType(t, b, "A", at, want)
				}
			}
			checkType(t, b, "A", lastTime, standard(count-1-count/2, "E"+strconv.Itoa(count-1)))
		}
	}
}

// P15: eras without rules, with each kind of format: the saving counts, and the
// letter is '-'.
func TestErasWithoutRules(t *testing.T) {
	for _, c := range []struct {
		format, whenZero, whenNot string
	}{
		{"CET", "CET", "CET"}, {"-", "-", "-"}, {"+0530", "+0530", "+0530"}, {"ABCDEFGH", "ABCDEFGH", "ABCDEFGH"},
		{"GMT/BST", "GMT", "BST"}, {"-03/-02", "-03", "-02"}, {"A/BCDEFGHI", "A", "BCDEFGHI"}, {"-/+", "-", "+"},
		{"CE%T", "CET", "CET"}, {"%T", "T", "T"}, {"CE%", "CE", "CE"}, {"ABCD%EFGH", "ABCDEFGH", "ABCDEFGH"},
	} {
		for _, offset := range []int{0, 1, -1, 3600, -3600, 19800, -12600, maxOffset, -maxOffset} {
			for _, save := range []int{0, 1, 1200, 3600, maxSave} {
				b := api.Book{Zones: []api.Zone{{Name: "A", Eras: []api.Era{{Offset: offset, Save: save, Format: c.format}}}}}
				want := api.Type{Offset: offset + save, Save: save > 0, Name: c.whenNot}
				if save == 0 {
					want.Name = c.whenZero
				}
				checkAlways(t, b, "A", want)
				checkZone(t, b, b.Zones[0])
			}
		}
	}
}

// P15: an era without rules does not look at the rules of the book, even if
// these have an empty beginning, no saving or many transitions.
func TestRulesOfOthers(t *testing.T) {
	b := bookOf("rule S 1900 2100 1 1 0:00 1:00 S", "rule A 1900 2100 1 1 0:00 1:00 A", "zone A\nera 1:00 -0:00 C%T 2000-01-01T00:00:00\nera 1:00 -2:00 C%T", "zone S\nera 1:00 S C%T")
	checkSince(t, b, "A", "2000-01-01T00:00:00", standard(3600, "CT"), summer(10800, "CT"))
	checkSince(t, b, "S", "1899-12-31T23:00:00", standard(3600, "CT"), summer(7200, "CST"))
}

// P15: a saving of one second is a saving, and one of the greatest too, with
// rules and without.
func TestSavings(t *testing.T) {
	for save := 0; save <= maxSave; save += 1 + save%7*113 {
		b := bookOf("rule R 2000 2000 3 1 0:00u 0:00 S", "zone A\nera -1:00 R A/B", "zone C\nera -1:00 -0:00 A/B")
		b.Rules[0].Save, b.Zones[1].Eras[0].Save = save, save
		want := summer(save-3600, "B")
		if save == 0 {
			want = standard(-3600, "A")
		}
		checkAlways(t, b, "C", want)
		checkSince(t, b, "A", "2000-03-01T00:00:00", standard(-3600, "A"), want)
		checkType(t, b, "A", lastTime, want)
	}
}
