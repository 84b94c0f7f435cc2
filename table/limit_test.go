package table_test

import (
	"strconv"
	"testing"

	"timeball/api"
	"timeball/state"
	"timeball/table"
)

// manyYears returns a book with a number of rules for a number of years in
// total. No two of them have the same day, so that their times increase.
func manyYears(name string, years, rules int) (b api.Book) {
	for i := range rules {
		share := years / (rules - i)
		years -= share
		on := api.Day{Kind: 1, N: 1 + i/12*7}
		b.Rules = append(b.Rules, api.Rule{Name: name, From: 1900, To: 1900 + share - 1, Month: 1 + i%12, On: on, Letter: "-"})
	}
	return b
}

// manyEras returns a book with a zone of a number of eras, one second each from
// 1970 on, and of a number of types, which take turns.
func manyEras(eras, types int) api.Book {
	zone := api.Zone{Name: "A"}
	for i := range eras {
		zone.Eras = append(zone.Eras, api.Era{Offset: i % types, Format: "T" + strconv.Itoa(i%types), Until: i + 1})
	}
	zone.Eras[eras-1].Until = 0
	return api.Book{Zones: []api.Zone{zone}}
}

// checkSize checks how many types and changes a table has.
func checkSize(t *testing.T, b api.Book, s api.Span, types, changes int) {
	t.Helper()
	x, e := table.Make(b, "A", s)
	if len(x.Types) != types || len(x.Changes) != changes || e != api.OK {
		t.Errorf("%v: %d types and %d changes, error %d, want %d and %d", s, len(x.Types), len(x.Changes), e, types, changes)
	}
	if e := table.Check(x); e != api.OK {
		t.Errorf("%v is no table: error %d", s, e)
	}
}

// P17: as many types as there may be, and one more; only those in the span
// count.
func TestMostTypes(t *testing.T) {
	for _, count := range []int{maxTypes - 1, maxTypes} {
		b := manyEras(count, count)
		checkSize(t, b, always, count, count-1)
		checkMake(t, b, "A", always)
	}
	for _, count := range []int{maxTypes + 1, 256, 257, 300, maxEras} {
		b := manyEras(count, count)
		checkNone(t, b, "A", always, api.ErrLarge)
		for _, k := range []struct{ from, to, types int }{
			{0, maxTypes - 1, maxTypes - 1}, {0, maxTypes, maxTypes}, {1, maxTypes + 1, maxTypes}, {count - maxTypes, count, maxTypes}, {count - maxTypes, 1 << 30, maxTypes}, {count - 1, 1 << 30, 1},
			{firstTime, maxTypes, maxTypes}, {5, 6, 1}, {5, 7, 2},
		} {
			checkSize(t, b, api.Span{From: k.from, To: k.to}, k.types, k.types-1)
		}
		checkNone(t, b, "A", api.Span{From: 0, To: maxTypes + 1}, api.ErrLarge)
		checkNone(t, b, "A", api.Span{From: count - maxTypes - 1, To: count}, api.ErrLarge)
	}
	// Types that come back count once.
	for _, types := range []int{2, maxTypes - 1, maxTypes} {
		b := manyEras(maxEras, types)
		checkSize(t, b, always, types, maxEras-1)
		checkMake(t, b, "A", always)
	}
	checkNone(t, manyEras(maxEras, maxTypes+1), "A", always, api.ErrLarge)
}

// P17: as many changes as there may be, and one more; only those in the span
// count.
func TestMostChanges(t *testing.T) {
	b := manyYears("R", maxYears, 8)
	b.Zones = []api.Zone{{Name: "A", Eras: []api.Era{{Offset: -hour, Rules: "R", Format: "x%"}}}}
	for i := range b.Rules {
		b.Rules[i].Save, b.Rules[i].Letter = i%3*hour, string(rune('A'+i))
	}
	times, e := candidates(b, b.Zones[0])
	if len(times) != maxYears || e != api.OK {
		t.Fatalf("%d transitions, error %d", len(times), e)
	}
	// The first transition changes nothing, and each other one does.
	for _, first := range []int{1, 2, 100, maxYears - maxChanges - 1, maxYears - maxChanges} {
		last := first + maxChanges - 1
		from, to := times[first]-1, times[last]+1
		checkSize(t, b, api.Span{From: from, To: to}, 8, maxChanges)
		checkSize(t, b, api.Span{From: from + 1, To: to}, 8, maxChanges-1)
		checkSize(t, b, api.Span{From: from, To: to - 1}, 8, maxChanges-1)
		if last+1 < len(times) {
			checkSize(t, b, api.Span{From: from, To: times[last+1]}, 8, maxChanges)
			checkNone(t, b, "A", api.Span{From: from, To: times[last+1] + 1}, api.ErrLarge)
		}
		if first > 1 {
			checkSize(t, b, api.Span{From: times[first-1], To: to}, 8, maxChanges)
			checkNone(t, b, "A", api.Span{From: times[first-1] - 1, To: to}, api.ErrLarge)
		}
	}
	checkSize(t, b, api.Span{From: firstTime, To: times[maxChanges] + 1}, 8, maxChanges)
	checkSize(t, b, api.Span{From: firstTime, To: times[maxChanges+1]}, 8, maxChanges)
	checkNone(t, b, "A", api.Span{From: firstTime, To: times[maxChanges+1] + 1}, api.ErrLarge)
	checkNone(t, b, "A", always, api.ErrLarge)
	checkMake(t, b, "A", api.Span{From: times[300], To: times[800]})
}

// P17: transitions that change nothing, and those outside of their era, do not
// count for the limit.
func TestTransitionsThatDoNotCount(t *testing.T) {
	b := manyYears("R", maxYears, 8)
	b.Zones = []api.Zone{{Name: "A", Eras: []api.Era{{Rules: "R", Format: "A"}}}}
	checkSize(t, b, always, 1, 0)
	for i := range b.Rules {
		b.Rules[i].Save = i % 2 * hour
	}
	checkNone(t, b, "A", always, api.ErrLarge)
	b.Zones[0].Eras = []api.Era{{Format: "A", Until: timeOf("1990-01-01T00:00:00")}, {Rules: "R", Format: "A", Until: timeOf("2010-01-01T00:00:00")}, {Format: "A"}}
	checkSize(t, b, always, 2, 20*8)
	checkMake(t, b, "A", always)
}

// P17: as many eras with rules as there may be, with all transitions in each of
// them, few of which are in the era.
func TestManyErasWithRules(t *testing.T) {
	b := manyYears("R", maxYears, 8)
	for i := range b.Rules {
		b.Rules[i].Save = i % 2 * hour
	}
	zone := api.Zone{Name: "A"}
	for i := range maxEras {
		zone.Eras = append(zone.Eras, api.Era{Offset: i % 7 * hour, Rules: "R", Format: "A/B", Until: i * 10 * dayLength})
	}
	zone.Eras[maxEras-1].Until = 0
	b.Zones = []api.Zone{zone}
	s := spanOf("1975-01-01T00:00:00", "1985-01-01T00:00:00")
	x, e := table.Make(b, "A", s)
	// Seven offsets, with and without a saving.
	if len(x.Types) != 14 || e != api.OK {
		t.Errorf("%s, error %d", show(x), e)
	}
	for _, change := range x.Changes {
		for _, at := range []int{change.At - 1, change.At, change.At + 2*dayLength} {
			if at >= s.To {
				break
			}
			want, e := state.At(b, "A", at)
			if e != api.OK {
				t.Fatalf("no type at %d: error %d", at, e)
			}
			checkAt(t, x, at, want)
		}
	}
}
