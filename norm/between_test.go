package norm_test

import (
	"math/rand"
	"slices"
	"testing"

	"timeball/api"
	"timeball/norm"
)

// whole is the greatest span.
var whole = api.Span{From: -maxTime, To: maxTime}

// spans returns the spans whose ends are given in pairs.
func spans(ends ...int) (list []api.Span) {
	for i := 0; i < len(ends); i += 2 {
		list = append(list, api.Span{From: ends[i], To: ends[i+1]})
	}
	return list
}

// checkBetween checks in which spans two tables differ, either way round.
func checkBetween(t *testing.T, x, y api.Table, s api.Span, want []api.Span) {
	t.Helper()
	for range 2 {
		if list, e := norm.Between(x, y, s); !slices.Equal(list, want) || e != api.OK {
			t.Errorf("Between(%s, %s, %v) = %s, %d, want %s", show(x), show(y), s, show(list), e, show(want))
		}
		x, y = y, x
	}
}

// P18: the spans in which two tables assign different types.
func TestBetween(t *testing.T) {
	a, ab := lettered("A", "A"), lettered("AB", "A", 5, "B")
	aba := lettered("AB", "A", 5, "B", 8, "A")
	for _, c := range []struct {
		x, y api.Table
		s    api.Span
		want []api.Span
	}{
		// At all times.
		{a, lettered("B", "B"), whole, spans(-maxTime, maxTime)},
		{a, lettered("B", "B"), api.Span{From: 3, To: 4}, spans(3, 4)},
		// From a change on, which may lie outside of the span or at one of its ends.
		{a, ab, whole, spans(5, maxTime)},
		{a, ab, api.Span{From: 0, To: 10}, spans(5, 10)},
		{a, ab, api.Span{From: 4, To: 6}, spans(5, 6)},
		{a, ab, api.Span{From: 5, To: 6}, spans(5, 6)},
		{a, ab, api.Span{From: 6, To: 7}, spans(6, 7)},
		{a, ab, api.Span{From: 4, To: 5}, nil},
		{a, ab, api.Span{From: -maxTime, To: 5}, nil},
		{a, ab, api.Span{From: 5, To: maxTime}, spans(5, maxTime)},
		// Up to a change.
		{lettered("B", "B"), ab, whole, spans(-maxTime, 5)},
		{lettered("B", "B"), ab, api.Span{From: 4, To: 6}, spans(4, 5)},
		{lettered("B", "B"), ab, api.Span{From: 3, To: 5}, spans(3, 5)},
		{lettered("B", "B"), ab, api.Span{From: 2, To: 4}, spans(2, 4)},
		{lettered("B", "B"), ab, api.Span{From: 5, To: 6}, nil},
		// From one change to another, of one table or of both.
		{a, aba, whole, spans(5, 8)},
		{a, aba, api.Span{From: 6, To: 7}, spans(6, 7)},
		{a, aba, api.Span{From: 8, To: 9}, nil},
		{ab, lettered("AB", "A", 7, "B"), whole, spans(5, 7)},
		{lettered("BA", "A", 5, "B", 8, "A"), lettered("BA", "A", 6, "B", 9, "A"), whole, spans(5, 6, 8, 9)},
		{lettered("BA", "A", 5, "B", 8, "A"), lettered("AB", "B", 5, "A", 8, "B"), whole, spans(-maxTime, maxTime)},
		{lettered("BA", "A", 5, "B", 8, "A"), lettered("AB", "B", 5, "A"), whole, spans(-maxTime, 8)},
		{lettered("AB", "A", 1, "B", 2, "A", 3, "B", 4, "A"), a, whole, spans(1, 2, 3, 4)},
		// They differ in another way from a change of one table or of both on.
		{a, lettered("ABC", "A", 5, "B", 6, "C", 7, "A"), whole, spans(5, 7)},
		{lettered("AB", "A", 6, "B"), lettered("ABC", "A", 5, "B", 6, "C", 7, "B"), whole, spans(5, 7)},
		{lettered("AC", "A", 6, "C"), lettered("ABC", "A", 5, "B", 6, "C", 7, "B"), whole, spans(5, 6, 7, maxTime)},
		{lettered("AB", "A", 5, "B"), lettered("BA", "B", 5, "A"), whole, spans(-maxTime, maxTime)},
		// Both change, to the same type.
		{lettered("AB", "A", 5, "B"), lettered("CB", "C", 5, "B"), whole, spans(-maxTime, 5)},
	} {
		checkBetween(t, c.x, c.y, c.s, c.want)
	}
}

// P18: the spans are the greatest ones, whatever way a table is written in.
func TestGreatestSpans(t *testing.T) {
	a := lettered("A", "A")
	for _, y := range []api.Table{
		lettered("AB", "A", 5, "B", 6, "B", 7, "B", 9, "A", 10, "A"), lettered("BA", "A", 4, "A", 5, "B", 8, "B", 9, "A"), lettered("ABDCA", "A", 5, "B", 6, "C", 7, "D", 9, "A"),
	} {
		for _, x := range []api.Table{a, lettered("CA", "A"), lettered("AA", "A", 4, "A", 5, "A", 6, "A", 20, "A")} {
			checkBetween(t, x, y, whole, spans(5, 9))
			checkBetween(t, x, y, api.Span{From: 7, To: 8}, spans(7, 8))
			checkBetween(t, x, y, api.Span{From: 8, To: 12}, spans(8, 9))
			checkBetween(t, x, x, whole, nil)
			checkBetween(t, y, y, whole, nil)
		}
	}
	twice := api.Table{Types: []api.Type{standard(0, "A"), standard(0, "B"), standard(0, "B")}, Changes: []api.Change{{At: 5, Type: 1}, {At: 6, Type: 2}, {At: 7, Type: 1}, {At: 9, Type: 0}}}
	checkBetween(t, a, twice, whole, spans(5, 9))
	checkBetween(t, lettered("AB", "A", 5, "B", 9, "A"), twice, whole, nil)
}

// P18: a difference in one field is a difference.
func TestDifferentFields(t *testing.T) {
	x := api.Table{Types: []api.Type{standard(3600, "A")}}
	for _, kind := range []api.Type{summer(3600, "A"), standard(3601, "A"), standard(-3600, "A"), standard(3600, "a"), standard(3600, "AA")} {
		y := api.Table{Types: []api.Type{x.Types[0], kind}, Changes: []api.Change{{At: -7, Type: 1}, {At: 7, Type: 0}}}
		checkBetween(t, x, y, whole, spans(-7, 7))
	}
}

// P18: spans without times, and ends at the bounds.
func TestBounds(t *testing.T) {
	x, y := lettered("AB", "A", -maxTime, "B", maxTime, "A"), lettered("BA", "B", -maxTime, "A", maxTime, "B")
	for _, at := range []int{-maxTime, -maxTime + 1, -1, 0, 1, maxTime - 1, maxTime} {
		checkBetween(t, x, y, api.Span{From: at, To: at}, nil)
		checkBetween(t, x, x, api.Span{From: at, To: at}, nil)
		for _, s := range []api.Span{{From: -maxTime, To: at}, {From: at, To: maxTime}} {
			if s.From < s.To {
				checkBetween(t, x, y, s, []api.Span{s})
			}
			checkBetween(t, x, x, s, nil)
		}
	}
	checkBetween(t, x, lettered("A", "A"), whole, spans(-maxTime, maxTime))
	checkBetween(t, x, lettered("B", "B"), whole, nil)
	checkBetween(t, lettered("AB", "A", maxTime-1, "B"), lettered("A", "A"), whole, spans(maxTime-1, maxTime))
	checkBetween(t, lettered("AB", "A", -maxTime+1, "B"), lettered("B", "B"), whole, spans(-maxTime, -maxTime+1))
}

// P18: Between is empty for equivalent tables, and for those only.
func TestBetweenAndSame(t *testing.T) {
	random := rand.New(rand.NewSource(181))
	count := map[bool]int{}
	for range 5000 {
		x := mixedTable(random, 1+random.Intn(3), random.Intn(4), 1+random.Intn(1<<random.Intn(30)))
		y := mixedTable(random, 1+random.Intn(3), random.Intn(4), 1+random.Intn(1<<random.Intn(30)))
		if random.Intn(3) == 0 {
			y = written(random, x)
		}
		list, e := norm.Between(x, y, whole)
		if e != api.OK {
			t.Fatal(show(x), show(y), e)
		}
		checkSame(t, x, y, len(list) == 0)
		count[len(list) == 0]++
	}
	if count[true] < 1000 || count[false] < 1000 {
		t.Error("too few of a kind: ", count)
	}
}

// secondsBetween looks at every second of a span.
func secondsBetween(x, y api.Table, s api.Span) (list []api.Span) {
	for at := s.From; at < s.To; at++ {
		if typeAt(x, at) == typeAt(y, at) {
			continue
		}
		if at > s.From && typeAt(x, at-1) != typeAt(y, at-1) {
			list[len(list)-1].To++
		} else {
			list = append(list, api.Span{From: at, To: at + 1})
		}
	}
	return list
}

// P18: every second of small tables.
func TestEverySecond(t *testing.T) {
	random := rand.New(rand.NewSource(182))
	several := 0
	for range 5000 {
		x := mixedTable(random, 1+random.Intn(5), 2+random.Intn(8), 1+random.Intn(6))
		y := mixedTable(random, 1+random.Intn(5), 2+random.Intn(8), 1+random.Intn(6))
		for range 6 {
			from := random.Intn(60) - 30
			s := api.Span{From: from, To: from + random.Intn(50)}
			want := secondsBetween(x, y, s)
			checkBetween(t, x, y, s, want)
			if len(want) > 1 {
				several++
			}
		}
	}
	if several < 3000 {
		t.Errorf("only %d results with several spans", several)
	}
}

// P18: tables with as many changes as there may be, at the same times or in
// turn.
func TestBetweenLargeTables(t *testing.T) {
	a := lettered("A", "A")
	var x, y, z api.Table
	x.Types, y.Types, z.Types = manyTypes(maxTypes), manyTypes(maxTypes), manyTypes(maxTypes)
	var even, odd []api.Span
	for i := range maxChanges {
		x.Changes = append(x.Changes, api.Change{At: i * 10, Type: (i + 1) % maxTypes})
		y.Changes = append(y.Changes, api.Change{At: i * 10, Type: (i + 1 + i%2) % maxTypes})
		z.Changes = append(z.Changes, api.Change{At: i*10 + 4, Type: (i + 1) % maxTypes})
		if i%2 == 1 {
			odd = append(odd, api.Span{From: i * 10, To: i*10 + 10})
		}
		even = append(even, api.Span{From: i * 10, To: i*10 + 4})
	}
	checkBetween(t, x, x, whole, nil)
	checkBetween(t, a, x, whole, spans(-maxTime, maxTime))
	odd[len(odd)-1].To = maxTime
	checkBetween(t, x, y, whole, odd)
	checkBetween(t, x, z, whole, even)
	checkBetween(t, x, z, api.Span{From: 2, To: 9994}, append(spans(2, 4), even[1:]...))
	checkBetween(t, x, z, api.Span{From: 4, To: 9993}, append(slices.Clone(even[1:999]), api.Span{From: 9990, To: 9993}))
	checkBetween(t, x, z, api.Span{From: 5000, To: 5005}, spans(5000, 5004))
}
