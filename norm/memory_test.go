package norm_test

import (
	"math/rand"
	"slices"
	"strconv"
	"strings"
	"testing"
	"unsafe"

	"timeball/api"
	"timeball/norm"
)

// copyOf returns a copy of a table, its strings included.
func copyOf(x api.Table) api.Table {
	y := api.Table{Types: slices.Clone(x.Types), First: x.First, Changes: slices.Clone(x.Changes)}
	for i := range y.Types {
		y.Types[i].Name = strings.Clone(y.Types[i].Name)
	}
	return y
}

// changing returns a copy of a table that becomes something else, the bytes of
// its strings included, when the function is called.
func changing(x api.Table) (api.Table, func()) {
	y := copyOf(x)
	var names [][]byte
	for i, kind := range y.Types {
		name := []byte(kind.Name)
		y.Types[i].Name = unsafe.String(unsafe.SliceData(name), len(name))
		names = append(names, name)
	}
	return y, func() {
		for _, name := range names {
			for i := range name {
				name[i] = '#'
			}
		}
		clear(y.Types)
		clear(y.Changes)
	}
}

// samples are tables, in normal form and not.
func samples() []api.Table {
	random := rand.New(rand.NewSource(2))
	list := []api.Table{simple(), lettered("A", "A"), lettered("CBA", "A", 5, "B", 6, "B", 7, "A")}
	for range 20 {
		list = append(list, mixedTable(random, 1+random.Intn(6), random.Intn(12), 20))
	}
	return list
}

// P2: a normal form stays as it is when the memory of the table changes, that of
// the abbreviations included.
func TestNormalFormsStay(t *testing.T) {
	for _, x := range samples() {
		want, _ := norm.Norm(copyOf(x))
		own, change := changing(x)
		y, e := norm.Norm(own)
		change()
		if !same(y, want) || e != api.OK {
			t.Errorf("the normal form of %s became %s, %d, want %s", show(x), show(y), e, show(want))
		}
	}
}

// P2: no two abbreviations share memory: neither those of one table, nor those
// of several calls, nor those of the arguments.
func TestAbbreviationsAreNew(t *testing.T) {
	const letters = "Summer"
	x := api.Table{Types: []api.Type{standard(0, letters), standard(1, letters), standard(2, letters[1:]), standard(0, letters)}, Changes: []api.Change{{At: 1, Type: 1}, {At: 2, Type: 2}, {At: 3, Type: 3}}}
	seen := map[*byte]bool{}
	for i := range letters {
		seen[unsafe.StringData(letters[i:])] = true
	}
	for range 3 {
		y, e := norm.Norm(x)
		if len(y.Types) != 3 || e != api.OK {
			t.Fatalf("%s, %d", show(y), e)
		}
		for _, kind := range y.Types {
			seen[unsafe.StringData(kind.Name)] = true
		}
	}
	if len(seen) != len(letters)+9 {
		t.Errorf("%d of 9 abbreviations are new", len(seen)-len(letters))
	}
}

// P2: two results share no memory, the room behind their lists included.
func TestResultsAreNew(t *testing.T) {
	for _, x := range samples() {
		a, _ := norm.Norm(x)
		b, _ := norm.Norm(x)
		want := copyOf(b)
		clear(a.Types[:cap(a.Types)])
		clear(a.Changes[:cap(a.Changes)])
		if !same(b, want) {
			t.Errorf("a normal form of %s became %s, want %s", show(x), show(b), show(want))
		}
		checkForm(t, x, want)
		for _, y := range samples()[:6] {
			p, _ := norm.Between(x, y, whole)
			q, _ := norm.Between(x, y, whole)
			want := slices.Clone(q)
			clear(p[:cap(p)])
			if !slices.Equal(q, want) {
				t.Errorf("Between(%s, %s) became %v, want %v", show(x), show(y), q, want)
			}
			checkBetween(t, x, y, whole, want)
		}
	}
}

// roomy returns a copy of a list with room behind it, which is filled with
// marks, and all of the memory.
func roomy[T any](list []T, mark T) (short, all []T) {
	all = slices.Clone(list)
	for range 5 {
		all = append(all, mark)
	}
	return all[:len(list)], all
}

// P2: a table, good or bad, stays as it is, and the room behind its lists.
func TestArgumentsStay(t *testing.T) {
	bad, _ := badTables()
	kindMark, changeMark := standard(1, "mark"), api.Change{At: 1 << 39, Type: 1}
	for _, want := range append(samples(), bad...) {
		types, allTypes := roomy(want.Types, kindMark)
		changes, allChanges := roomy(want.Changes, changeMark)
		x := api.Table{Types: types, First: want.First, Changes: changes}
		norm.Norm(x)
		for _, y := range []api.Table{x, simple(), {}} {
			norm.Same(x, y)
			norm.Same(y, x)
			for _, s := range []api.Span{whole, {From: -50, To: 150}, {From: 1, To: -1}} {
				norm.Between(x, y, s)
				norm.Between(y, x, s)
			}
		}
		isWhole := same(x, want)
		for i := range 5 {
			isWhole = isWhole && allTypes[len(types)+i] == kindMark && allChanges[len(changes)+i] == changeMark
		}
		if !isWhole {
			t.Errorf("%s was changed", show(want))
		}
	}
}

// ask returns the results of some calls, failed ones included, as a text.
func ask(i int, bad []api.Table) string {
	x, y := simple(), lettered("ABC", "B", i%50, "A", i%50+1, "C", 200, "C")
	x.First, x.Types[1].Offset = i%3, i
	if i%4 == 3 {
		y = bad[i/4%len(bad)]
	}
	var out strings.Builder
	for _, pair := range [][2]api.Table{{x, y}, {y, x}, {x, simple()}} {
		form, e := norm.Norm(pair[0])
		out.WriteString(show(form) + strconv.Itoa(int(e)) + ";")
		is, e := norm.Same(pair[0], pair[1])
		out.WriteString(strconv.FormatBool(is) + strconv.Itoa(int(e)) + ";")
		list, e := norm.Between(pair[0], pair[1], api.Span{From: i - 100, To: 100})
		out.WriteString(show(list) + strconv.Itoa(int(e)) + ";")
	}
	return out.String()
}

// P2: a result does not depend on which calls were made before, failed ones
// included.
func TestNoStateIsKept(t *testing.T) {
	const calls = 300
	bad, _ := badTables()
	var upward []string
	for i := range calls {
		upward = append(upward, ask(i, bad))
	}
	for i := calls - 1; i >= 0; i-- {
		if got := ask(i, bad); got != upward[i] {
			t.Fatalf("call %d: %s, and before %s", i, show(got), show(upward[i]))
		}
	}
}

// P2: calls from several goroutines do not disturb each other.
func TestCallsAtTheSameTime(t *testing.T) {
	const workers = 8
	failed := make(chan string, workers)
	shared := lettered("CBA", "A", 5, "B", 6, "B", 7, "A", 8, "A")
	for w := range workers {
		go func() {
			own := lettered("XAB", "A", 5, "B", 7+w, "A")
			for range 200 {
				x, e := norm.Norm(shared)
				y, e2 := norm.Norm(own)
				is, e3 := norm.Same(shared, own)
				list, e4 := norm.Between(shared, own, whole)
				isRight := same(x, lettered("AB", "A", 5, "B", 7, "A")) && same(y, lettered("AB", "A", 5, "B", 7+w, "A")) && is == (w == 0)
				isRight = isRight && (w == 0 && len(list) == 0 || w > 0 && slices.Equal(list, spans(7, 7+w)))
				if !isRight || e != api.OK || e2 != api.OK || e3 != api.OK || e4 != api.OK {
					failed <- show(x) + show(y) + show(list)
					return
				}
			}
			failed <- ""
		}()
	}
	for range workers {
		if s := <-failed; s != "" {
			t.Errorf("%s: wrong results", s)
		}
	}
}
