package names_test

import (
	"math"
	"math/rand"
	"regexp"
	"slices"
	"strconv"
	"strings"
	"testing"

	"timeball/api"
	"timeball/book"
	"timeball/names"
)

// The characters of names, sorted.
const (
	letters    = "ABCDEFGHIJKLMNOPQRSTUVWXYZabcdefghijklmnopqrstuvwxyz"
	characters = "-/0123456789ABCDEFGHIJKLMNOPQRSTUVWXYZ_abcdefghijklmnopqrstuvwxyz"
)

var nameForm = regexp.MustCompile(`\A[a-zA-Z][a-zA-Z0-9_/-]{0,19}\z`)

// mixed returns a book in which the names are those of zones and of links, in
// any order.
func mixed(list []string, random *rand.Rand) (b api.Book) {
	list = slices.Clone(list)
	random.Shuffle(len(list), func(i, k int) { list[i], list[k] = list[k], list[i] })
	zones := min(1+random.Intn(len(list)), maxZones)
	zones = max(zones, len(list)-maxLinks)
	b.Zones = zonesOf(list[:zones]...)
	for i, name := range list[zones:] {
		b.Links = append(b.Links, api.Link{Name: name, To: list[random.Intn(zones+i)]})
	}
	return b
}

// checkOrder checks that a sorted list of names comes out as it is.
func checkOrder(t *testing.T, want []string) {
	t.Helper()
	random := rand.New(rand.NewSource(int64(len(want))))
	for range 10 {
		b := mixed(want, random)
		if list, e := names.All(b); !slices.Equal(list, want) || e != api.OK {
			t.Fatalf("All(%s) = %q, %d, want %q", show(b), list, e, want)
		}
		checkBook(t, b)
	}
}

// P13: the bytewise order: lower case after upper case, and where digits and
// the other characters are.
func TestOrder(t *testing.T) {
	checkOrder(t, []string{
		"A", "A-", "A--", "A-a", "A/", "A/A", "A/a", "A0", "A00", "A1", "A10", "A2", "A9", "AA", "AAA", "AB", "AZ", "A_", "A_A", "Aa", "Ab", "Az",
		"B", "Ba", "Z", "Z-", "Z_", "Zz", "a", "a-", "a/", "a0", "aA", "a_", "aa", "z", "z9", "zZ", "zz",
	})
	checkOrder(t, []string{"America/New-York", "America/NewYork", "America/New_York", "America/Newyork"})
	checkOrder(t, []string{"ABCDEFGHIJKLMNOPQRS", "ABCDEFGHIJKLMNOPQRS-", "ABCDEFGHIJKLMNOPQRST", "ABCDEFGHIJKLMNOPQRSt", "ABCDEFGHIJKLMNOPQRs"})
	var prefixes []string
	for i := range letters[:20] {
		prefixes = append(prefixes, letters[:i+1])
	}
	checkOrder(t, prefixes)
	for i := 0; i+40 <= len(letters); i++ {
		checkOrder(t, strings.Split(letters[i:i+40], ""))
	}
	for i := 0; i+40 <= len(characters); i++ {
		for _, ends := range [][2]string{{"N", ""}, {"Name", "/z"}} {
			var list []string
			for _, c := range strings.Split(characters[i:i+40], "") {
				list = append(list, ends[0]+c+ends[1])
			}
			checkOrder(t, list)
		}
	}
}

// P13: every two characters of names.
func TestOrderOfPairs(t *testing.T) {
	for i := range characters {
		for k := range i {
			low, high := "N"+characters[k:k+1], "N"+characters[i:i+1]
			for _, want := range [][]string{{low, high}, {low + "z", high + "-"}, {low, low + "-", high}} {
				for _, list := range orders(want) {
					checkPair(t, api.Book{Zones: zonesOf(list...)}, want)
					checkPair(t, api.Book{Zones: zonesOf(list[0]), Links: chain(list[0], list[1:]...)}, want)
				}
			}
		}
	}
}

func checkPair(t *testing.T, b api.Book, want []string) {
	t.Helper()
	if list, e := names.All(b); !slices.Equal(list, want) || e != api.OK {
		t.Errorf("All(%s) = %q, %d, want %q", show(b), list, e, want)
	}
}

// P13: names that differ in one byte, at every place.
func TestOneByte(t *testing.T) {
	for _, name := range []string{"ABCDEFGHIJKLMNOPQRST", "a", "ab", "Z_/-9"} {
		for i := range name {
			for c := range 256 {
				other := name[:i] + string([]byte{byte(c)}) + name[i+1:]
				if other == name {
					continue
				}
				one := zonesOf(name)
				checkNone(t, api.Book{Zones: one}, api.ErrNone, other)
				checkNone(t, api.Book{Links: ring(name)}, api.ErrNone, other)
				checkNone(t, api.Book{Zones: zonesOf("Zone"), Links: chain("Zone", name)}, api.ErrNone, other)
				if nameForm.MatchString(other) {
					checkBook(t, api.Book{Zones: zonesOf(name, other)})
					checkBook(t, api.Book{Zones: one, Links: ring(other)})
					checkBook(t, api.Book{Zones: zonesOf("Zone", name), Links: chain("Zone", other)})
				}
			}
		}
	}
}

// P13: names that differ in length alone, or in upper and lower case.
func TestAlikeNames(t *testing.T) {
	const name = "AbCdEfGhIjKlMnOpQrSt"
	var upper, lower []string
	for i := range name {
		upper = append(upper, strings.ToUpper(name[:i+1]))
		lower = append(lower, strings.ToLower(name[:i+1]))
	}
	for shift := range maxLinks {
		b := api.Book{Zones: zonesOf(upper...)}
		for i, small := range lower {
			b.Links = append(b.Links, api.Link{Name: small, To: upper[(i+shift)%maxZones]})
		}
		for i, small := range lower {
			checkZone(t, b, small, b.Zones[(i+shift)%maxZones])
			checkZone(t, b, upper[i], b.Zones[i])
		}
		checkNone(t, b, api.ErrNone, name, name+"u", strings.ToUpper(name)+"U", strings.ToLower(name)+"u", "Ab", "aB")
		checkBook(t, b)
	}
	for i := range name {
		b := api.Book{Zones: zonesOf("Z", name[:i+1]), Links: ring("Loop")}
		for k := range name {
			if k != i {
				checkNone(t, b, api.ErrNone, name[:k+1])
			}
		}
		checkNone(t, b, api.ErrNone, name[:i+1]+"A", "A"+name[:i+1], strings.Repeat(name[:i+1], 2), name[1:])
	}
	for i := range 1 << 4 {
		var list []string
		for k := range 1 << 4 {
			each := []byte("abcd")
			for bit := range each {
				each[bit] -= byte(k>>bit&1) * ('a' - 'A')
			}
			list = append(list, string(each))
		}
		checkBook(t, api.Book{Zones: zonesOf(list[:i]...), Links: ring(list[i:]...)})
		checkBook(t, api.Book{Zones: zonesOf(list[i:]...), Links: chain(list[i], list[:i]...)})
	}
}

// P13: the empty name, and names that are none.
func TestBadNames(t *testing.T) {
	bad := []string{"", " ", "-", "1", "_", "/", "%", "\x00", "\n", "\xff", "a b", "UTC ", " UTC", "UTC\n", "UTC\x00", "UTC\xff", "\ufeffUTC", "ÜTC", "UTC.", "0",
		"link B Berlin", "zone UTC", "Europe", "Europe/", "/Berlin", "Europe//Berlin", "Europe\\Berlin", "ABCDEFGHIJKLMNOPQRSTU",
		strings.Repeat("A", 1<<16), strings.Repeat("\x00", 1<<16), strings.Repeat("UTC", 1<<14)}
	for _, b := range []api.Book{exampleBook(), {}, {Zones: zonesOf("UTC")}, {Links: ring("UTC")}} {
		checkNone(t, b, api.ErrNone, bad...)
		for c := range 256 {
			checkNone(t, b, api.ErrNone, "UTC"+string([]byte{byte(c)}), string([]byte{byte(c)})+"UTC")
		}
	}
}

// A flaw makes the example's book a bad one.
type flaw struct {
	change func(b *api.Book)
	want   api.Errno
}

func flaws() []flaw {
	return []flaw{
		{func(b *api.Book) { b.Rules = slices.Repeat(b.Rules, maxRules) }, api.ErrLarge},
		{func(b *api.Book) { b.Zones = zonesOf(numbered("Europe/", maxZones+1)...) }, api.ErrLarge},
		{func(b *api.Book) { b.Links = append(b.Links, ring(numbered("L", maxLinks)...)...) }, api.ErrLarge},
		{func(b *api.Book) { b.Rules[1].Name = "" }, api.ErrSyntax},
		{func(b *api.Book) { b.Rules[0].Letter = "%" }, api.ErrSyntax},
		{func(b *api.Book) { b.Rules[1].To = math.MaxInt }, api.ErrArg},
		{func(b *api.Book) { b.Rules[1].Month, b.Rules[1].On = 2, api.Day{Kind: 1, N: 29} }, api.ErrArg},
		{func(b *api.Book) { b.Zones[2].Name = "1" }, api.ErrSyntax},
		{func(b *api.Book) { b.Zones[2].Name = "" }, api.ErrSyntax},
		{func(b *api.Book) { b.Zones[2].Name = "Europe/Berlin" }, api.ErrTwice},
		{func(b *api.Book) { b.Zones[2].Eras = nil }, api.ErrForm},
		{func(b *api.Book) { b.Zones[2].Eras = slices.Repeat(b.Zones[2].Eras, maxEras+1) }, api.ErrLarge},
		{func(b *api.Book) { b.Zones[0].Eras[2].Offset = math.MinInt }, api.ErrArg},
		{func(b *api.Book) { b.Zones[0].Eras[1].Save = -1 }, api.ErrArg},
		{func(b *api.Book) { b.Zones[1].Eras[0].Save = 1 }, api.ErrForm},
		{func(b *api.Book) { b.Zones[1].Eras[0].Rules = "Nobody" }, api.ErrNone},
		{func(b *api.Book) { b.Zones[1].Eras[0].Format = "" }, api.ErrSyntax},
		{func(b *api.Book) { b.Zones[1].Eras[0].Format = "%ABCDEFGH" }, api.ErrLarge},
		{func(b *api.Book) { b.Zones[0].Eras[0].Until = math.MaxInt }, api.ErrArg},
		{func(b *api.Book) { b.Zones[0].Eras[1].Until = b.Zones[0].Eras[0].Until }, api.ErrForm},
		{func(b *api.Book) { b.Zones[2].Eras[0].Until = 1 }, api.ErrForm},
		{func(b *api.Book) { b.Links[6].Name = "" }, api.ErrSyntax},
		{func(b *api.Book) { b.Links[6].To = "" }, api.ErrSyntax},
		{func(b *api.Book) { b.Links[6].Name = "UTC" }, api.ErrTwice},
		{func(b *api.Book) { b.Links[6].Name = "Self" }, api.ErrTwice},
		{func(b *api.Book) { b.Links[6].To = "Nobody" }, api.ErrNone},
		{func(b *api.Book) { b.Links[0].To = "EU" }, api.ErrNone},
		{func(b *api.Book) { b.Zones, b.Links[0].To = nil, "Self" }, api.ErrNone},
	}
}

// P13: a bad book yields the error of Check, whichever name is asked for: that
// of a zone, of a link, of a loop, or no name.
func TestBadBooks(t *testing.T) {
	for i, flaw := range flaws() {
		b := with(flaw.change)
		if e := book.Check(b); e != flaw.want {
			t.Fatalf("flaw %d: Check = %d, want %d", i, e, flaw.want)
		}
		checkNone(t, b, flaw.want, "Europe/Berlin", "Europe/London", "UTC", "Berlin", "B", "Zulu", "Self", "Hen", "Egg", "Nest")
		checkNone(t, b, flaw.want, "", " ", "1", "Nobody", "EU", "Europe/"+strconv.Itoa(maxZones), strings.Repeat("A", 1<<16))
		if list, e := names.All(b); len(list) != 0 || e != flaw.want {
			t.Errorf("flaw %d: All = %q, %d, want an empty list and error %d", i, list, e, flaw.want)
		}
	}
}

// P1: books that are far from being good.
func TestHugeBooks(t *testing.T) {
	for _, b := range []api.Book{
		{Rules: make([]api.Rule, 1<<16)}, {Zones: make([]api.Zone, 1<<16)}, {Links: make([]api.Link, 1<<16)},
		{Zones: zonesOf(numbered("Z", 1000)...), Links: chain("Z0", numbered("L", 1000)...)},
		{Zones: zonesOf(numbered("Z", maxZones)...), Links: ring(numbered("L", maxLinks+1)...)},
	} {
		checkNone(t, b, api.ErrLarge, "", "Z0", "L0", "Nobody")
		if list, e := names.All(b); len(list) != 0 || e != api.ErrLarge {
			t.Errorf("All = %q, %d, want an empty list and error %d", list, e, api.ErrLarge)
		}
	}
}
