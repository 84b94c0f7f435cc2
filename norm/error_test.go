package norm_test

import (
	"math"
	"testing"

	"timeball/api"
	"timeball/norm"
	"timeball/table"
)

// simple returns a good table of three types and four changes.
func simple() api.Table {
	return api.Table{
		Types:   []api.Type{standard(3208, "LMT"), standard(3600, "CET"), summer(7200, "CEST")},
		Changes: []api.Change{{At: -100, Type: 1}, {At: 0, Type: 2}, {At: 100, Type: 1}, {At: 200, Type: 0}},
	}
}

// A fault makes the simple table a bad one.
type fault struct {
	change func(x *api.Table)
	want   api.Errno
}

// faults are in the order in which the document mentions their errors.
func faults() (list []fault) {
	put := func(want api.Errno, changes ...func(x *api.Table)) {
		for _, change := range changes {
			list = append(list, fault{change, want})
		}
	}
	put(api.ErrLarge,
		func(x *api.Table) { x.Types = append(x.Types, manyTypes(maxTypes+1)...) },
		func(x *api.Table) { x.Changes = append(x.Changes, make([]api.Change, maxChanges+1)...) })
	put(api.ErrForm, func(x *api.Table) { x.Types = nil })
	for i := range 3 {
		for _, offset := range []int{-mostOffset - 1, mostOffset + 1, math.MinInt, math.MaxInt} {
			put(api.ErrArg, func(x *api.Table) { x.Types[i].Offset = offset })
		}
		for _, name := range []string{"", "ABCDEFGHI", "A%"} {
			put(api.ErrSyntax, func(x *api.Table) { x.Types[i].Name = name })
		}
	}
	for _, first := range []int{-1, 1000, math.MinInt, math.MaxInt} {
		put(api.ErrArg, func(x *api.Table) { x.First = first })
	}
	for i := range 4 {
		for _, at := range []int{-maxTime - 1, maxTime + 1, math.MinInt, math.MaxInt} {
			put(api.ErrArg, func(x *api.Table) { x.Changes[i].At = at })
		}
		for _, number := range []int{-1, 1000, math.MinInt, math.MaxInt} {
			put(api.ErrArg, func(x *api.Table) { x.Changes[i].Type = number })
		}
		if i > 0 {
			put(api.ErrForm,
				func(x *api.Table) { x.Changes[i].At = x.Changes[i-1].At },
				func(x *api.Table) { x.Changes[i].At = -maxTime })
		}
	}
	return list
}

// badTables returns a table with each fault, and the error.
func badTables() (tables []api.Table, errors []api.Errno) {
	for _, fault := range faults() {
		x := simple()
		fault.change(&x)
		tables, errors = append(tables, x), append(errors, fault.want)
	}
	return tables, errors
}

// checkBad checks the error of two tables and a span, and that there is nothing
// beside it.
func checkBad(t *testing.T, x, y api.Table, s api.Span, want api.Errno) {
	t.Helper()
	if list, e := norm.Between(x, y, s); len(list) > 0 || e != want {
		t.Errorf("Between(%s, %s, %v) = %s, %d, want no spans and error %d", show(x), show(y), s, show(list), e, want)
	}
}

// checkNotSame checks the error of two tables, and that there is nothing beside
// it.
func checkNotSame(t *testing.T, x, y api.Table, want api.Errno) {
	t.Helper()
	if is, e := norm.Same(x, y); is || e != want {
		t.Errorf("Same(%s, %s) = %v, %d, want false and error %d", show(x), show(y), is, e, want)
	}
	checkBad(t, x, y, api.Span{From: 0, To: 10}, want)
}

// badSpans are spans whose ends are beyond the bounds or in the wrong order.
func badSpans() (list []api.Span) {
	for _, at := range []int{-maxTime - 1, maxTime + 1, -1 << 41, 1 << 41, -1 << 62, 1 << 62, math.MinInt, math.MinInt + 1, math.MaxInt, math.MaxInt - 1} {
		list = append(list, spans(at, 0, 0, at, at, at, at, maxTime, -maxTime, at)...)
	}
	return append(list, spans(math.MinInt, math.MaxInt, math.MaxInt, math.MinInt, 1, 0, 0, -1, maxTime, -maxTime, maxTime, maxTime-1, -maxTime+1, -maxTime, 5, 4)...)
}

// P18: Norm has the error of table.Check, and no table beside it.
func TestBadTables(t *testing.T) {
	tables, errors := badTables()
	for i, x := range tables {
		if e := table.Check(x); e != errors[i] {
			t.Errorf("Check(%s) = %d, want %d", show(x), e, errors[i])
		}
		if y, e := norm.Norm(x); len(y.Types) > 0 || y.First != 0 || len(y.Changes) > 0 || e != errors[i] {
			t.Errorf("Norm(%s) = %s, %d, want no table and error %d", show(x), show(y), e, errors[i])
		}
	}
	// Faults in what the normal form does not have.
	unused := lettered("AB", "A")
	unused.Types[1].Name = "%"
	if y, e := norm.Norm(unused); len(y.Types) > 0 || e != api.ErrSyntax {
		t.Errorf("Norm(%s) = %s, %d", show(unused), show(y), e)
	}
	idle := lettered("A", "A", maxTime+1, "A")
	if y, e := norm.Norm(idle); len(y.Types) > 0 || e != api.ErrArg {
		t.Errorf("Norm(%s) = %s, %d", show(idle), show(y), e)
	}
}

// P18: Same and Between have the error of either table, also if the tables are
// alike; the first table counts first.
func TestTwoBadTables(t *testing.T) {
	tables, errors := badTables()
	for i, x := range tables {
		checkNotSame(t, x, simple(), errors[i])
		checkNotSame(t, simple(), x, errors[i])
		checkNotSame(t, x, x, errors[i])
		for k, y := range tables {
			checkNotSame(t, x, y, errors[i])
			checkNotSame(t, y, x, errors[k])
		}
	}
}

// P18: Between has ErrArg for a span beyond the bounds or in the wrong order,
// which the errors of the tables precede.
func TestBadSpans(t *testing.T) {
	tables, errors := badTables()
	for _, s := range badSpans() {
		checkBad(t, simple(), simple(), s, api.ErrArg)
		checkBad(t, simple(), lettered("AB", "A", 5, "B"), s, api.ErrArg)
		for i, x := range tables {
			checkBad(t, x, simple(), s, errors[i])
			checkBad(t, simple(), x, s, errors[i])
		}
	}
	// Nor does a fault go unnoticed where a span has no times.
	for i, x := range tables {
		for _, s := range spans(0, 0, maxTime, maxTime, -1000, -999) {
			checkBad(t, x, simple(), s, errors[i])
			checkBad(t, simple(), x, s, errors[i])
		}
	}
}

// P18: the numbers of types and changes, up to the limits and beyond them.
func TestSizes(t *testing.T) {
	for _, types := range []int{1, maxTypes, maxTypes + 1, 256} {
		for _, changes := range []int{0, maxChanges, maxChanges + 1, 1024} {
			x := api.Table{Types: manyTypes(types)}
			for i := range changes {
				x.Changes = append(x.Changes, api.Change{At: i, Type: i % types})
			}
			if types > maxTypes || changes > maxChanges {
				checkNotSame(t, x, x, api.ErrLarge)
				continue
			}
			checkNorm(t, x)
			checkSame(t, x, x, true)
			checkBetween(t, x, x, whole, nil)
		}
	}
}
