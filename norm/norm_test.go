package norm_test

import (
	"fmt"
	"math"
	"math/rand"
	"slices"
	"strings"
	"testing"

	"timeball/api"
	"timeball/norm"
	"timeball/table"
)

// The document's numbers, written out, so that a wrong constant is noticed.
const (
	firstTime  = -11676096000 // 1600-01-01T00:00:00
	lastTime   = 13569465599  // 2399-12-31T23:59:59
	mostOffset = 75600
	maxTypes   = 250
	maxChanges = 1000
	maxTime    = 1 << 40
)

// standard and summer are types of local time without and with a saving.
func standard(offset int, name string) api.Type { return api.Type{Offset: offset, Name: name} }
func summer(offset int, name string) api.Type {
	return api.Type{Offset: offset, Save: true, Name: name}
}

// show returns the beginning of a value.
func show(x any) string { return fmt.Sprintf("%.600s", fmt.Sprint(x)) }

// same reports whether tables have the same types and changes, in the same order.
func same(x, y api.Table) bool {
	return slices.Equal(x.Types, y.Types) && x.First == y.First && slices.Equal(x.Changes, y.Changes)
}

// lettered returns a table whose types are named by letters, with offset 0. It
// is written as the letter of the first type, and pairs of times and letters.
// Letters stand in kinds in the order of the types; there may be one twice, in
// which case the last one is meant.
func lettered(kinds, first string, changes ...any) (x api.Table) {
	for _, c := range kinds {
		x.Types = append(x.Types, standard(0, string(c)))
	}
	x.First = strings.LastIndex(kinds, first)
	for i := 0; i < len(changes); i += 2 {
		x.Changes = append(x.Changes, api.Change{At: changes[i].(int), Type: strings.LastIndex(kinds, changes[i+1].(string))})
	}
	return x
}

// typeAt returns the type of a good table that applies at a time: all changes
// are gone through, from the first one on.
func typeAt(x api.Table, at int) api.Type {
	number := x.First
	for _, change := range x.Changes {
		if change.At <= at {
			number = change.Type
		}
	}
	return x.Types[number]
}

// checkForm checks a normal form.
func checkForm(t *testing.T, x, want api.Table) {
	t.Helper()
	if y, e := norm.Norm(x); !same(y, want) || e != api.OK {
		t.Errorf("Norm(%s) = %s, %d, want %s", show(x), show(y), e, show(want))
	}
}

// checkNorm checks that the normal form of a good table has the properties that
// P18 demands.
func checkNorm(t *testing.T, x api.Table) api.Table {
	t.Helper()
	y, e := norm.Norm(x)
	if e != api.OK || table.Check(y) != api.OK {
		t.Fatalf("Norm(%s) = %s, %d", show(x), show(y), e)
	}
	if s := flawOf(x, y); s != "" {
		t.Errorf("Norm(%s) = %s: %s", show(x), show(y), s)
	}
	if again, e := norm.Norm(y); !same(again, y) || e != api.OK {
		t.Errorf("Norm(%s) = %s, %d, which is in normal form", show(y), show(again), e)
	}
	return y
}

// flawOf returns why y is not the normal form of x.
func flawOf(x, y api.Table) string {
	for _, list := range [][]api.Change{x.Changes, y.Changes} {
		for i, change := range list {
			if i > 30 && i < len(list)-30 && i%17 > 0 {
				continue
			}
			for _, at := range []int{change.At - 1, change.At, change.At + 1} {
				if typeAt(x, at) != typeAt(y, at) {
					return fmt.Sprint("not equivalent at ", at)
				}
			}
		}
	}
	if typeAt(x, math.MinInt) != typeAt(y, math.MinInt) || typeAt(x, math.MaxInt) != typeAt(y, math.MaxInt) {
		return "not equivalent at one of the ends"
	}
	order := []api.Type{y.Types[y.First]}
	for i, change := range y.Changes {
		kind := y.Types[change.Type]
		before := y.Types[y.First]
		if i > 0 {
			before = y.Types[y.Changes[i-1].Type]
		}
		if kind == before {
			return fmt.Sprint("no change at ", change.At)
		}
		if !slices.Contains(order, kind) {
			order = append(order, kind)
		}
	}
	if !slices.Equal(order, y.Types) || y.First != 0 {
		return "the types are not those that are used, in their order"
	}
	return ""
}

// P18: a change to the same type is removed, as is a type that is not used and
// one that is there twice.
func TestWays(t *testing.T) {
	for _, c := range []struct{ x, want api.Table }{
		// The normal form already.
		{lettered("A", "A"), lettered("A", "A")},
		{lettered("AB", "A", 5, "B"), lettered("AB", "A", 5, "B")},
		{lettered("AB", "A", 5, "B", 6, "A"), lettered("AB", "A", 5, "B", 6, "A")},
		{lettered("ABC", "A", 5, "B", 6, "C", 7, "A"), lettered("ABC", "A", 5, "B", 6, "C", 7, "A")},
		// Changes to the type that applies.
		{lettered("A", "A", 5, "A"), lettered("A", "A")},
		{lettered("A", "A", 5, "A", 6, "A", 7, "A"), lettered("A", "A")},
		{lettered("AB", "A", 4, "A", 5, "B"), lettered("AB", "A", 5, "B")},
		{lettered("AB", "A", 5, "B", 6, "B"), lettered("AB", "A", 5, "B")},
		{lettered("AB", "A", 5, "B", 6, "B", 7, "A", 8, "A", 9, "A", 10, "B"), lettered("AB", "A", 5, "B", 7, "A", 10, "B")},
		// Types that are not used.
		{lettered("AB", "A"), lettered("A", "A")},
		{lettered("AB", "B"), lettered("B", "B")},
		{lettered("ABC", "C"), lettered("C", "C")},
		{lettered("ABCD", "B", 5, "D"), lettered("BD", "B", 5, "D")},
		{lettered("ABCD", "B", 5, "B"), lettered("B", "B")},
		// Types in another order.
		{lettered("BA", "A", 5, "B"), lettered("AB", "A", 5, "B")},
		{lettered("CBA", "A", 5, "B", 6, "C"), lettered("ABC", "A", 5, "B", 6, "C")},
		{lettered("ABC", "B", 5, "A", 6, "C"), lettered("BAC", "B", 5, "A", 6, "C")},
		{lettered("ABC", "A", 5, "C", 6, "A", 7, "B"), lettered("ACB", "A", 5, "C", 6, "A", 7, "B")},
		// The order is that of the use, not that of the changes that are removed.
		{lettered("ABC", "C", 1, "C", 2, "B", 3, "B", 4, "A", 5, "C"), lettered("CBA", "C", 2, "B", 4, "A", 5, "C")},
	} {
		checkForm(t, c.x, c.want)
		checkForm(t, c.want, c.want)
		checkNorm(t, c.x)
	}
}

// P18: types that are there twice are one.
func TestTypesThatAreThereTwice(t *testing.T) {
	a, b := standard(0, "A"), standard(0, "B")
	for _, c := range []struct {
		types   []api.Type
		first   int
		changes []api.Change
		want    api.Table
	}{
		{[]api.Type{a, a}, 0, nil, lettered("A", "A")},
		{[]api.Type{a, a}, 1, nil, lettered("A", "A")},
		{[]api.Type{a, a}, 0, []api.Change{{At: 5, Type: 1}}, lettered("A", "A")},
		{[]api.Type{a, a}, 1, []api.Change{{At: 5, Type: 0}}, lettered("A", "A")},
		{[]api.Type{a, a, a}, 2, []api.Change{{At: 5, Type: 0}, {At: 6, Type: 1}, {At: 7, Type: 2}}, lettered("A", "A")},
		{[]api.Type{a, b, a}, 0, []api.Change{{At: 5, Type: 1}, {At: 6, Type: 2}}, lettered("AB", "A", 5, "B", 6, "A")},
		{[]api.Type{a, b, a}, 2, []api.Change{{At: 5, Type: 1}, {At: 6, Type: 0}}, lettered("AB", "A", 5, "B", 6, "A")},
		{[]api.Type{a, b, a, b}, 0, []api.Change{{At: 5, Type: 2}, {At: 6, Type: 1}, {At: 7, Type: 3}, {At: 8, Type: 1}, {At: 9, Type: 2}, {At: 10, Type: 0}}, lettered("AB", "A", 6, "B", 9, "A")},
		{[]api.Type{b, b, a, a}, 3, []api.Change{{At: 5, Type: 1}, {At: 6, Type: 0}, {At: 7, Type: 2}}, lettered("AB", "A", 5, "B", 7, "A")},
	} {
		x := api.Table{Types: c.types, First: c.first, Changes: c.changes}
		checkForm(t, x, c.want)
		checkNorm(t, x)
	}
}

// P18: types that differ in one field only are different ones.
func TestTypesMuchAlike(t *testing.T) {
	x := api.Table{Types: []api.Type{standard(3600, "A"), summer(3600, "A"), standard(3601, "A"), standard(-3600, "A"), standard(3600, "a"), standard(3600, "AA"), standard(0, "A"),
		standard(mostOffset, "A"), standard(-mostOffset, "A"), standard(3600+256, "A"), standard(3600+65536, "A")}}
	for i := 1; i < len(x.Types); i++ {
		x.Changes = append(x.Changes, api.Change{At: i, Type: i})
	}
	checkForm(t, x, x)
	for i := range x.Types {
		for k := range x.Types {
			if i == k {
				continue
			}
			y := api.Table{Types: x.Types, First: i, Changes: []api.Change{{At: 7, Type: k}}}
			checkForm(t, y, api.Table{Types: []api.Type{x.Types[i], x.Types[k]}, Changes: []api.Change{{At: 7, Type: 1}}})
		}
	}
}

// P18: the first type is used at times before all changes, also if the first
// change is at the least time that one may have.
func TestEndsOfTheRange(t *testing.T) {
	for _, at := range []int{-maxTime, -maxTime + 1, firstTime, 0, lastTime, maxTime - 1, maxTime} {
		x := lettered("ABC", "C", at, "A")
		checkForm(t, x, lettered("CA", "C", at, "A"))
		checkForm(t, lettered("AB", "B", at, "B"), lettered("B", "B"))
	}
	checkForm(t, lettered("ABC", "C", -maxTime, "B", maxTime, "A"), lettered("CBA", "C", -maxTime, "B", maxTime, "A"))
	checkForm(t, lettered("ABC", "C", -maxTime, "C", maxTime, "A"), lettered("CA", "C", maxTime, "A"))
	checkForm(t, lettered("ABC", "C", -maxTime, "B", maxTime, "B"), lettered("CB", "C", -maxTime, "B"))
}

// manyTypes returns a number of types, no two of which are alike.
func manyTypes(count int) (list []api.Type) {
	for i := range count {
		list = append(list, api.Type{Offset: i - count/2, Save: i%3 == 0, Name: fmt.Sprint("T", i%100)})
	}
	return list
}

// P18: as many types and changes as there may be.
func TestLargeTables(t *testing.T) {
	for _, step := range []int{1, 2, 1 << 30} {
		x := api.Table{Types: manyTypes(maxTypes), First: maxTypes - 1}
		for i := range maxChanges {
			x.Changes = append(x.Changes, api.Change{At: (i - maxChanges/2) * step, Type: i % maxTypes})
		}
		y := checkNorm(t, x)
		if len(y.Types) != maxTypes || len(y.Changes) != maxChanges || y.Types[0] != x.Types[maxTypes-1] || y.Types[1] != x.Types[0] {
			t.Errorf("Norm(%s) = %s", show(x), show(y))
		}
		// All types are alike.
		for i := range x.Types {
			x.Types[i] = standard(1, "A")
		}
		checkForm(t, x, api.Table{Types: x.Types[:1]})
		// They are alike in pairs, and each applies twice, at most.
		for i := range x.Types {
			x.Types[i].Offset = i % 125
		}
		for i := range x.Changes {
			x.Changes[i].Type = (i/2 + i%2*125) % maxTypes
		}
		y = checkNorm(t, x)
		if len(y.Types) != 125 || len(y.Changes) != maxChanges/2 {
			t.Errorf("Norm(%s) = %s", show(x), show(y))
		}
	}
}

// mixedTable returns a table of a few types, some of which are alike and some
// are not used, with times that lie close together or far apart.
func mixedTable(random *rand.Rand, kinds, changes, gap int) (x api.Table) {
	for range kinds {
		x.Types = append(x.Types, api.Type{Offset: random.Intn(2), Save: random.Intn(3) == 0, Name: "A"})
	}
	x.First = random.Intn(kinds)
	at := -random.Intn(1 + gap*changes)
	for range changes {
		at += 1 + random.Intn(gap)
		x.Changes = append(x.Changes, api.Change{At: at, Type: random.Intn(kinds)})
	}
	return x
}

// P18: many tables.
func TestMixedTables(t *testing.T) {
	random := rand.New(rand.NewSource(18))
	shorter, fewer := 0, 0
	for range 5000 {
		x := mixedTable(random, 1+random.Intn(6), random.Intn(12), 1+random.Intn(1<<random.Intn(36)))
		y := checkNorm(t, x)
		if len(y.Changes) > 0 && len(y.Changes) < len(x.Changes) {
			shorter++
		}
		if len(y.Types) > 1 && len(y.Types) < len(x.Types) {
			fewer++
		}
	}
	if shorter < 1000 || fewer < 1000 {
		t.Errorf("too few: %d, %d", shorter, fewer)
	}
}
