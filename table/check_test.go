package table_test

import (
	"math"
	"slices"
	"strings"
	"testing"

	"timeball/api"
)

// manyTimes returns a number of changes, one second after each other.
func manyTimes(count int) (list []api.Change) {
	for i := range count {
		list = append(list, api.Change{At: i, Type: i % 3})
	}
	return list
}

// P16: the numbers of types and changes, up to the limits and beyond them.
func TestSizes(t *testing.T) {
	for _, types := range []int{3, maxTypes - 1, maxTypes, maxTypes + 1, 256, 1 << 16} {
		for _, changes := range []int{0, 1, maxChanges - 1, maxChanges, maxChanges + 1, 1024, 1 << 16} {
			x := api.Table{Types: manyTypes(types), First: 2, Changes: manyTimes(changes)}
			if types > maxTypes || changes > maxChanges {
				checkBad(t, x, api.ErrLarge)
			} else {
				checkGood(t, x)
			}
		}
	}
	checkBad(t, api.Table{Types: make([]api.Type, maxTypes+1)}, api.ErrLarge)
	checkBad(t, api.Table{Changes: make([]api.Change, maxChanges+1)}, api.ErrLarge)
	checkBad(t, api.Table{Changes: make([]api.Change, maxChanges)}, api.ErrForm)
}

// P16: a table without types.
func TestNoTypes(t *testing.T) {
	for _, types := range [][]api.Type{nil, {}} {
		for _, first := range []int{math.MinInt, -1, 0, 1, math.MaxInt} {
			checkBad(t, api.Table{Types: types, First: first}, api.ErrForm)
			checkBad(t, api.Table{Types: types, First: first, Changes: []api.Change{}}, api.ErrForm)
			checkBad(t, api.Table{Types: types, First: first, Changes: []api.Change{{}, {At: -1 << 50, Type: -1}}}, api.ErrForm)
		}
	}
}

// P16: offsets of each type, at the bounds and beyond them.
func TestOffsets(t *testing.T) {
	for i := range simple().Types {
		for offset, isGood := range map[int]bool{
			-mostOffset: true, mostOffset: true, -mostOffset + 1: true, mostOffset - 1: true, -maxOffset - 1: true, maxOffset + 1: true, 0: true, 1: true, -1: true,
			-mostOffset - 1: false, mostOffset + 1: false, 1 << 31: false, -1 << 31: false, 1 << 32: false, 1<<32 + 1: false, math.MinInt: false, math.MinInt + 1: false, math.MaxInt: false,
		} {
			for _, save := range []bool{false, true} {
				x := simple()
				x.Types[i].Offset, x.Types[i].Save = offset, save
				if isGood {
					checkGood(t, x)
				} else {
					checkBad(t, x, api.ErrArg)
				}
			}
		}
	}
}

// P16: names of each type: their lengths, and every byte at every position.
func TestNamesOfTypes(t *testing.T) {
	const good = "ABCDEFGHIJKLMNOPQRSTUVWXYZabcdefghijklmnopqrstuvwxyz0123456789+-"
	check := func(i int, name string, isGood bool) {
		t.Helper()
		x := simple()
		x.Types[i].Name = name
		if isGood {
			checkGood(t, x)
		} else {
			checkBad(t, x, api.ErrSyntax)
		}
	}
	for i := range simple().Types {
		for length := range 12 {
			for _, s := range []string{"A", "z", "0", "+", "-", "CEST"} {
				check(i, strings.Repeat(s, 12)[:length], length >= 1 && length <= 8)
			}
		}
		check(i, strings.Repeat("A", 1<<16), false)
		for c := range 256 {
			one := string([]byte{byte(c)})
			isGood := strings.Contains(good, one)
			check(i, one, isGood)
			for _, name := range []string{"AB", "Summer9"} {
				for k := range len(name) + 1 {
					check(i, name[:k]+one+name[k:], isGood)
				}
			}
		}
		for _, name := range []string{"A/B", "C%", "é", "A B", "A\n", "\x00"} {
			check(i, name, false)
		}
	}
}

// P16: First and the types of changes, at the bounds and beyond them, with one
// type and with as many as there may be.
func TestIndexes(t *testing.T) {
	for _, count := range []int{1, 2, 3, 16, maxTypes - 1, maxTypes} {
		for index, isGood := range map[int]bool{
			0: true, count - 1: true, count / 2: true,
			-1: false, count: false, count + 1: false, maxTypes: false, 255: false, 256: false, 1 << 32: false, -1 << 32: false, math.MinInt: false, math.MaxInt: false,
		} {
			x := api.Table{Types: manyTypes(count), First: index}
			changed := func(k int) api.Table {
				y := api.Table{Types: x.Types, Changes: manyTimes(4)}
				for i := range y.Changes {
					y.Changes[i].Type = i % count
				}
				y.Changes[k].Type = index
				return y
			}
			if isGood {
				checkGood(t, x)
			} else {
				checkBad(t, x, api.ErrArg)
			}
			for k := range 4 {
				if isGood {
					checkGood(t, changed(k))
				} else {
					checkBad(t, changed(k), api.ErrArg)
				}
			}
		}
	}
}

// P16: the times of the first change, of the last one and of one in between, at
// the bounds and beyond them.
func TestTimesOfChanges(t *testing.T) {
	x := simple()
	for at, isGood := range map[int]bool{
		-1 << 40: true, -1<<40 + 1: true, firstTime - 1: true, firstTime: true, -201: true,
		-1<<40 - 1: false, -1 << 41: false, -1 << 62: false, math.MinInt + 1: false, math.MinInt: false,
	} {
		x.Changes = []api.Change{{At: at, Type: 1}, {At: -200, Type: 2}}
		mirror := api.Table{Types: x.Types, Changes: []api.Change{{At: 200, Type: 1}, {At: -at, Type: 2}}}
		alone := api.Table{Types: x.Types, Changes: x.Changes[:1]}
		if isGood {
			checkGood(t, x)
			checkGood(t, mirror)
			checkGood(t, alone)
			continue
		}
		checkBad(t, x, api.ErrArg)
		checkBad(t, alone, api.ErrArg)
		if at != math.MinInt {
			checkBad(t, mirror, api.ErrArg)
		}
	}
	x.Changes = []api.Change{{At: 5}, {At: math.MaxInt}, {At: 6}}
	checkBad(t, x, api.ErrArg)
	x.Changes = []api.Change{{At: -1 << 40}, {At: 1 << 40}}
	checkGood(t, x)
}

// P16: two changes at the same time, or in the wrong order, are ErrForm,
// wherever they are.
func TestOrderOfChanges(t *testing.T) {
	for i := range 9 {
		x := simple()
		x.Changes = manyTimes(10)
		x.Changes[i+1].At = i + 1
		checkGood(t, x)
		x.Changes[i+1].At = i
		checkBad(t, x, api.ErrForm)
		x.Changes[i+1].At = i - 1
		checkBad(t, x, api.ErrForm)
		x.Changes[i+1].At = -1 << 40
		checkBad(t, x, api.ErrForm)
		x.Changes[i+1].At = -1<<40 - 1
		checkBad(t, x, api.ErrArg)
		x.Changes = manyTimes(10)
		x.Changes[i].At = 1 << 40
		checkBad(t, x, api.ErrForm)
	}
	x := simple()
	for _, at := range []int{-1 << 40, 0, 1 << 40} {
		x.Changes = []api.Change{{At: at, Type: 0}, {At: at, Type: 1}}
		checkBad(t, x, api.ErrForm)
	}
	slices.Reverse(x.Changes)
	checkBad(t, x, api.ErrForm)
}

// A fault makes the simple table a bad one.
type fault struct {
	change func(x *api.Table)
	want   api.Errno
}

// faults are in the order in which the document mentions their errors.
func faults() (list []fault) {
	put := func(want api.Errno, changes ...func(x *api.Table)) {
		for _, change := range changes {
			list = append(list, fault{change, want})
		}
	}
	put(api.ErrLarge,
		func(x *api.Table) { x.Types = append(x.Types, manyTypes(maxTypes+1)...) },
		func(x *api.Table) { x.Changes = append(x.Changes, make([]api.Change, maxChanges+1)...) })
	put(api.ErrForm, func(x *api.Table) { x.Types = nil })
	for i := range 3 {
		for _, offset := range []int{-mostOffset - 1, mostOffset + 1, math.MinInt, math.MaxInt} {
			put(api.ErrArg, func(x *api.Table) { x.Types[i].Offset = offset })
		}
		for _, name := range []string{"", "ABCDEFGHI", "A%"} {
			put(api.ErrSyntax, func(x *api.Table) { x.Types[i].Name = name })
		}
	}
	for _, first := range []int{-1, 1000, math.MinInt, math.MaxInt} {
		put(api.ErrArg, func(x *api.Table) { x.First = first })
	}
	for i := range 4 {
		for _, at := range []int{-1<<40 - 1, 1<<40 + 1, math.MinInt, math.MaxInt} {
			put(api.ErrArg, func(x *api.Table) { x.Changes[i].At = at })
		}
		for _, number := range []int{-1, 1000, math.MinInt, math.MaxInt} {
			put(api.ErrArg, func(x *api.Table) { x.Changes[i].Type = number })
		}
		if i > 0 {
			put(api.ErrForm,
				func(x *api.Table) { x.Changes[i].At = x.Changes[i-1].At },
				func(x *api.Table) { x.Changes[i].At = -1 << 40 })
		}
	}
	return list
}

// P16: each fault, and each two of them: the one that is mentioned first counts.
func TestOrderOfErrors(t *testing.T) {
	list := faults()
	for i, first := range list {
		x := simple()
		first.change(&x)
		checkBad(t, x, first.want)
		for _, second := range list[i+1:] {
			x := simple()
			// The second one must not undo the first one, which may take away
			// what the second one needs.
			second.change(&x)
			first.change(&x)
			checkBad(t, x, first.want)
		}
	}
}
