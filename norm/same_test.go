package norm_test

import (
	"math/rand"
	"slices"
	"testing"

	"timeball/api"
	"timeball/book"
	"timeball/norm"
	"timeball/table"
)

// checkSame checks whether two tables are equivalent, and each with itself.
func checkSame(t *testing.T, x, y api.Table, want bool) {
	t.Helper()
	for _, c := range []struct {
		x, y api.Table
		want bool
	}{{x, y, want}, {y, x, want}, {x, x, true}, {y, y, true}} {
		if is, e := norm.Same(c.x, c.y); is != c.want || e != api.OK {
			t.Errorf("Same(%s, %s) = %v, %d, want %v", show(c.x), show(c.y), is, e, c.want)
		}
	}
}

// P18: tables that are written in different ways may assign the same types.
func TestSame(t *testing.T) {
	groups := [][]api.Table{
		{lettered("A", "A"), lettered("AB", "A"), lettered("BA", "A"), lettered("AB", "A", 5, "A"), lettered("CBA", "A", -maxTime, "A", maxTime, "A"), lettered("AA", "A")},
		{lettered("B", "B"), lettered("AB", "B", 0, "B")},
		{lettered("AB", "A", 5, "B"), lettered("BA", "A", 5, "B"), lettered("BA", "A", 4, "A", 5, "B", 6, "B"), lettered("CBDAB", "A", 5, "B")},
		{lettered("AB", "A", 6, "B"), lettered("AB", "A", 5, "A", 6, "B")},
		{lettered("AB", "A", 4, "B")},
		{lettered("AB", "B", 5, "A"), lettered("BA", "B", 5, "A")},
		{lettered("AC", "A", 5, "C")},
		{lettered("AB", "A", 5, "B", 6, "A")},
		{lettered("AB", "A", 5, "B", 7, "A"), lettered("AB", "A", 5, "B", 6, "B", 7, "A")},
		{lettered("ABC", "A", 5, "B", 7, "C"), lettered("CAB", "A", 5, "B", 7, "C")},
		{lettered("ABC", "A", 5, "C", 7, "B")},
		// They differ at the ends only.
		{lettered("AB", "A", maxTime, "B")},
		{lettered("AB", "A", maxTime-1, "B")},
		{lettered("AB", "B", -maxTime, "A")},
		{lettered("AB", "B", -maxTime+1, "A")},
		{lettered("AB", "B", -maxTime, "A", maxTime, "B")},
	}
	for i, group := range groups {
		for k, other := range groups {
			for _, x := range group {
				for _, y := range other {
					checkSame(t, x, y, i == k)
				}
			}
		}
	}
}

// P18: types that differ in one field only are not the same.
func TestOneField(t *testing.T) {
	x := api.Table{Types: []api.Type{standard(3600, "A"), standard(7200, "B")}, Changes: []api.Change{{At: 10, Type: 1}, {At: 20, Type: 0}}}
	for i := range x.Types {
		for _, change := range []func(k *api.Type){
			func(k *api.Type) { k.Offset++ },
			func(k *api.Type) { k.Offset = -k.Offset },
			func(k *api.Type) { k.Save = true },
			func(k *api.Type) { k.Name = "a" },
			func(k *api.Type) { k.Name += "A" },
		} {
			y := copyOf(x)
			change(&y.Types[i])
			checkSame(t, x, y, false)
			// A type that is not used does not count.
			x, y := copyOf(x), copyOf(y)
			x.First, y.First = 1-i, 1-i
			for k := range x.Changes {
				x.Changes[k].Type, y.Changes[k].Type = 1-i, 1-i
			}
			checkSame(t, x, y, true)
		}
	}
}

// written returns a table that is equivalent to another one, and written in
// another way: with types that are there twice or not used, in another order,
// and with further changes.
func written(random *rand.Rand, x api.Table) api.Table {
	types := append(slices.Clone(x.Types), x.Types[random.Intn(len(x.Types))], standard(-1, "Z"))
	order := random.Perm(len(types))
	y := api.Table{Types: make([]api.Type, len(types))}
	for i, k := range order {
		y.Types[k] = types[i]
	}
	number := func(kind api.Type) int {
		for {
			if k := random.Intn(len(types)); y.Types[k] == kind {
				return k
			}
		}
	}
	y.First = number(x.Types[x.First])
	latest := x.Types[x.First]
	for i, change := range x.Changes {
		if random.Intn(2) == 0 && (i == 0 || x.Changes[i-1].At < change.At-1) {
			y.Changes = append(y.Changes, api.Change{At: change.At - 1, Type: number(latest)})
		}
		latest = x.Types[change.Type]
		y.Changes = append(y.Changes, api.Change{At: change.At, Type: number(latest)})
	}
	return y
}

// P18: many tables, written in several ways, have the same normal form; with
// one time or one type changed, they may not.
func TestMixedWays(t *testing.T) {
	random := rand.New(rand.NewSource(180))
	different := 0
	for range 3000 {
		x := mixedTable(random, 1+random.Intn(5), random.Intn(10), 1+random.Intn(1<<random.Intn(20)))
		y, z := written(random, x), written(random, x)
		checkSame(t, x, y, true)
		checkSame(t, y, z, true)
		form, _ := norm.Norm(x)
		checkForm(t, y, form)
		checkForm(t, z, form)
		if len(x.Changes) == 0 {
			continue
		}
		k := random.Intn(len(z.Changes))
		z.Changes[k].Type = random.Intn(len(z.Types))
		is := typeAt(z, z.Changes[k].At) == typeAt(x, z.Changes[k].At)
		checkSame(t, x, z, is)
		if !is {
			different++
		}
		// The last change is the only one with its time.
		last := len(form.Changes) - 1
		if last >= 0 {
			later := copyOf(form)
			later.Changes[last].At++
			checkSame(t, x, later, false)
		}
	}
	if different < 1000 {
		t.Errorf("only %d tables were changed", different)
	}
}

// P17, P18: a table that was compiled is in normal form.
func TestCompiledTables(t *testing.T) {
	b, line, e := book.Parse("rule EU 1977 1980 4 Sun>=1 1:00u 1:00 S\nrule EU 1977 1977 9 lastSun 1:00u 0:00 -\nrule EU 1978 1978 10 1 1:00u 0:00 -\n" +
		"rule EU 1979 1995 9 lastSun 1:00u 0:00 -\nrule EU 1981 2030 3 lastSun 1:00u 1:00 S\nrule EU 1996 2030 10 lastSun 1:00u 0:00 -\n" +
		"zone Europe/Berlin\nera 0:53:28 -0:00 LMT 1893-03-31T23:06:32\nera 1:00 EU CE%T 2000-01-01T00:00:00\nera 2:00 EU CE%T 2005-01-01T00:00:00\nera 1:00 -1:00 CEST")
	if e != api.OK {
		t.Fatal(line, e)
	}
	for _, from := range []int{firstTime, -1000000000, 0, 500000000, 1000000000} {
		for _, to := range []int{from + 1, from + 100000000, lastTime} {
			x, e := table.Make(b, "Europe/Berlin", api.Span{From: from, To: to})
			if e != api.OK {
				t.Fatal(from, to, e)
			}
			checkForm(t, x, x)
			checkNorm(t, x)
		}
	}
}
