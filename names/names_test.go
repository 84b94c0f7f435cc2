package names_test

import (
	"bytes"
	"fmt"
	"math/rand"
	"slices"
	"sort"
	"strconv"
	"strings"
	"testing"

	"timeball/api"
	"timeball/book"
	"timeball/names"
)

// The document's numbers, written out, so that a wrong constant is noticed.
const maxRules, maxZones, maxEras, maxLinks = 40, 20, 700, 20

// example is a text with everything that a book may contain.
const example = "rule EU 1981 2100 3 lastSun 1:00u 1:00 S\n" +
	"rule EU 1996 2100 10 lastSun 1:00u 0:00 -\n" +
	"zone Europe/Berlin\n" +
	"era 0:53:28 -0:00 LMT 1893-03-31T23:06:32\n" +
	"era 1:00 -1:00 CE%T 1980-01-01T00:00:00\n" +
	"era 1:00 EU CE%T\n" +
	"zone Europe/London\n" +
	"era 0:00 EU GMT/BST\n" +
	"zone UTC\n" +
	"era 0:00 -0:00 UTC\n" +
	"link B Berlin\n" +
	"link Berlin Europe/Berlin\n" +
	"link Zulu UTC\n" +
	"link Self Self\n" +
	"link Hen Egg\n" +
	"link Egg Hen\n" +
	"link Nest Egg"

// exampleBook returns the book with this text.
func exampleBook() api.Book {
	b, line, e := book.Parse(example)
	if line != 0 || e != api.OK {
		panic(fmt.Sprint("the example is no book: ", line, e))
	}
	return b
}

// with returns the example's book after a change.
func with(change func(b *api.Book)) api.Book {
	b := exampleBook()
	change(&b)
	return b
}

// zonesOf returns zones with these names, no two of them alike.
func zonesOf(list ...string) (zones []api.Zone) {
	for i, name := range list {
		eras := []api.Era{{Offset: i, Format: "First", Until: -i}, {Offset: -i, Format: "A/B" + strconv.Itoa(i)}}
		zones = append(zones, api.Zone{Name: name, Eras: eras[i%2:]})
	}
	return zones
}

// numbered returns n names.
func numbered(prefix string, n int) (list []string) {
	for i := range n {
		list = append(list, prefix+strconv.Itoa(i))
	}
	return list
}

// chain returns links, the first one to a name, each other one to the one
// before it.
func chain(to string, list ...string) (links []api.Link) {
	for _, name := range list {
		links = append(links, api.Link{Name: name, To: to})
		to = name
	}
	return links
}

// ring returns links in a cycle.
func ring(list ...string) []api.Link { return chain(list[len(list)-1], list...) }

// orders returns a list in several orders: as it is, the other way round, and
// two more, in which the neighbours are apart.
func orders[T any](list []T) [][]T {
	back := slices.Clone(list)
	slices.Reverse(back)
	all := [][]T{list, back}
	for seed := range int64(2) {
		mixed := slices.Clone(list)
		rand.New(rand.NewSource(seed)).Shuffle(len(mixed), func(i, k int) { mixed[i], mixed[k] = mixed[k], mixed[i] })
		all = append(all, mixed)
	}
	return all
}

// bytewise returns a sorted copy of a list.
func bytewise(list []string) []string {
	list = slices.Clone(list)
	sort.Slice(list, func(i, k int) bool { return bytes.Compare([]byte(list[i]), []byte(list[k])) < 0 })
	return list
}

func sameZone(a, b api.Zone) bool { return a.Name == b.Name && slices.Equal(a.Eras, b.Eras) }

func sameBook(a, b api.Book) bool {
	return slices.Equal(a.Rules, b.Rules) && slices.EqualFunc(a.Zones, b.Zones, sameZone) && slices.Equal(a.Links, b.Links)
}

// show returns the beginning of a value.
func show(x any) string { return fmt.Sprintf("%.400s", fmt.Sprint(x)) }

// checkZone checks that a name leads to a zone.
func checkZone(t *testing.T, b api.Book, name string, want api.Zone) {
	t.Helper()
	if z, e := names.Resolve(b, name); !sameZone(z, want) || e != api.OK {
		t.Errorf("Resolve(%s, %.40q) = %s, %d, want %s", show(b), name, show(z), e, show(want))
	}
}

// checkNone checks that names lead to no zone.
func checkNone(t *testing.T, b api.Book, want api.Errno, list ...string) {
	t.Helper()
	for _, name := range list {
		if z, e := names.Resolve(b, name); z.Name != "" || len(z.Eras) != 0 || e != want {
			t.Errorf("Resolve(%s, %.40q) = %s, %d, want a zero zone and error %d", show(b), name, show(z), e, want)
		}
	}
}

// checkAll checks the list of all names, which is given in any order.
func checkAll(t *testing.T, b api.Book, want ...string) {
	t.Helper()
	if list, e := names.All(b); !slices.Equal(list, bytewise(want)) || e != api.OK {
		t.Errorf("All(%s) = %q, %d, want %q", show(b), list, e, bytewise(want))
	}
}

// checkBook checks all names of a book against P13, told in another way than
// the package tells it: from the zones back to the links.
func checkBook(t *testing.T, b api.Book) {
	t.Helper()
	if e := book.Check(b); e != api.OK {
		t.Fatalf("%s is no book: error %d", show(b), e)
	}
	good := map[string]api.Zone{}
	for _, z := range b.Zones {
		good[z.Name] = z
	}
	for range b.Links {
		for _, link := range b.Links {
			if z, ok := good[link.To]; ok {
				good[link.Name] = z
			}
		}
	}
	var list []string
	for name, z := range good {
		checkZone(t, b, name, z)
		list = append(list, name)
	}
	for _, link := range b.Links {
		if _, ok := good[link.Name]; !ok {
			checkNone(t, b, api.ErrLoop, link.Name)
		}
	}
	checkNone(t, b, api.ErrNone, "", "Nobody", "-", "EU")
	checkAll(t, b, list...)
}

// P13: the example, in so many words.
func TestExample(t *testing.T) {
	b := exampleBook()
	for _, name := range []string{"Europe/Berlin", "Berlin", "B"} {
		checkZone(t, b, name, api.Zone{Name: "Europe/Berlin", Eras: []api.Era{
			{Offset: 3208, Format: "LMT", Until: -2422054408},
			{Offset: 3600, Save: 3600, Format: "CE%T", Until: 315532800},
			{Offset: 3600, Rules: "EU", Format: "CE%T"},
		}})
	}
	checkZone(t, b, "Europe/London", api.Zone{Name: "Europe/London", Eras: []api.Era{{Rules: "EU", Format: "GMT/BST"}}})
	for _, name := range []string{"UTC", "Zulu"} {
		checkZone(t, b, name, api.Zone{Name: "UTC", Eras: []api.Era{{Format: "UTC"}}})
	}
	checkNone(t, b, api.ErrLoop, "Self", "Hen", "Egg", "Nest")
	checkNone(t, b, api.ErrNone, "EU", "S", "LMT", "CET", "CE%T", "rule", "zone", "link", "Europe", "berlin", "b", "utc", "")
	list, e := names.All(b)
	if want := []string{"B", "Berlin", "Europe/Berlin", "Europe/London", "UTC", "Zulu"}; !slices.Equal(list, want) || e != api.OK {
		t.Errorf("All = %q, %d, want %q", list, e, want)
	}
	checkBook(t, b)
}

// P13: the empty book, and one with rules alone.
func TestNoNames(t *testing.T) {
	for _, b := range []api.Book{
		{}, {Rules: []api.Rule{}, Zones: []api.Zone{}, Links: []api.Link{}}, {Rules: exampleBook().Rules},
	} {
		checkNone(t, b, api.ErrNone, "", "A", "EU", "UTC", " ", "\x00", strings.Repeat("A", 1<<16))
		checkAll(t, b)
	}
}

// P13: zones alone, up to the limits.
func TestZonesAlone(t *testing.T) {
	for n := range maxZones + 1 {
		for _, zones := range orders(zonesOf(numbered("Zone/", n)...)) {
			b := api.Book{Zones: zones}
			for _, z := range zones {
				checkZone(t, b, z.Name, z)
			}
			checkNone(t, b, api.ErrNone, "Zone/"+strconv.Itoa(n), "Zone/", "Zone/00", "")
			checkAll(t, b, numbered("Zone/", n)...)
		}
	}
	for _, n := range []int{1, 2, maxEras - 1, maxEras} {
		zones := zonesOf("A", "B", "C")
		zones[1].Eras = make([]api.Era, n)
		for i := range n - 1 {
			zones[1].Eras[i] = api.Era{Offset: i, Save: 3 * i, Format: "A%" + strconv.Itoa(i), Until: 1000 * i}
		}
		zones[1].Eras[n-1].Format = "Last"
		checkBook(t, api.Book{Zones: zones, Links: chain("B", "D", "E")})
	}
}

// P13: chains of every length, to each of the zones, in several orders.
func TestChains(t *testing.T) {
	for n := range maxLinks + 1 {
		for _, count := range []int{1, 3, maxZones} {
			zones := zonesOf(numbered("Z", count)...)
			target := zones[n%count]
			list := numbered("L", n)
			for _, links := range orders(chain(target.Name, list...)) {
				b := api.Book{Zones: zones, Links: links}
				for _, name := range list {
					checkZone(t, b, name, target)
				}
				checkAll(t, b, append(numbered("Z", count), list...)...)
				checkBook(t, b)
			}
		}
	}
}

// P13: every link of a full book leads to one zone, each one to a zone of its
// own, or all form chains of a few.
func TestFullBooks(t *testing.T) {
	zones := zonesOf(numbered("Z", maxZones)...)
	everything := append(numbered("Z", maxZones), numbered("L", maxLinks)...)
	for step := range maxZones {
		for size := 1; size <= maxLinks; size++ {
			var links []api.Link
			want := map[string]api.Zone{}
			for i, name := range numbered("L", maxLinks) {
				target := zones[i/size*step%maxZones]
				to := target.Name
				if i%size != 0 {
					to = links[i-1].Name
				}
				links = append(links, api.Link{Name: name, To: to})
				want[name] = target
			}
			for _, links := range orders(links) {
				b := api.Book{Zones: zones, Links: links}
				for name, z := range want {
					checkZone(t, b, name, z)
				}
				checkAll(t, b, everything...)
			}
		}
	}
}

// P13: cycles of every length, with chains of every length that lead into
// them, beside zones and links to zones.
func TestCycles(t *testing.T) {
	for size := 1; size <= maxLinks; size++ {
		for tail := range maxLinks - size + 1 {
			inside, before := numbered("In", size), numbered("Before", tail)
			links := append(ring(inside...), chain(inside[tail%size], before...)...)
			for _, links := range orders(links) {
				b := api.Book{Links: links}
				checkNone(t, b, api.ErrLoop, append(inside, before...)...)
				checkNone(t, b, api.ErrNone, "", "Z0", "In", "Before", "In"+strconv.Itoa(size))
				checkAll(t, b)
				good := numbered("Good", maxLinks-size-tail)
				b = api.Book{Zones: zonesOf("Z0", "Z1"), Links: append(chain("Z1", good...), links...)}
				checkNone(t, b, api.ErrLoop, append(inside, before...)...)
				checkAll(t, b, append(good, "Z0", "Z1")...)
				checkBook(t, b)
			}
		}
	}
}

// P13: several cycles, among them links to themselves alone.
func TestSeveralCycles(t *testing.T) {
	for size := 1; size <= maxLinks; size++ {
		var links []api.Link
		list := numbered("L", maxLinks)
		for group := range slices.Chunk(list, size) {
			links = append(links, ring(group...)...)
		}
		for _, links := range orders(links) {
			for _, count := range []int{0, 1, maxZones} {
				b := api.Book{Zones: zonesOf(numbered("Z", count)...), Links: links}
				checkNone(t, b, api.ErrLoop, list...)
				checkAll(t, b, numbered("Z", count)...)
				checkBook(t, b)
			}
		}
	}
}

// P13: all books with a few zones and links.
func TestSmallBooks(t *testing.T) {
	for _, c := range []struct{ zones, links int }{{0, 1}, {0, 2}, {0, 3}, {0, 4}, {1, 1}, {1, 2}, {1, 3}, {1, 4}, {2, 3}, {2, 4}, {3, 3}} {
		zoneNames, linkNames := numbered("Z", c.zones), numbered("L", c.links)
		targets := append(slices.Clone(zoneNames), linkNames...)
		count := 1
		for range c.links {
			count *= len(targets)
		}
		for i := range count {
			b := api.Book{Zones: zonesOf(zoneNames...)}
			for _, name := range linkNames {
				b.Links = append(b.Links, api.Link{Name: name, To: targets[i%len(targets)]})
				i /= len(targets)
			}
			checkBook(t, b)
		}
	}
}

// P13: mixed books of all sizes, with names that are much alike.
func TestMixedBooks(t *testing.T) {
	random := rand.New(rand.NewSource(6))
	const letters = "aAbB"
	const others = "aAbB01_/-"
	for range 2000 {
		zones, links := random.Intn(maxZones+1), random.Intn(maxLinks+1)
		var list []string
		for len(list) < zones+links {
			name := letters[random.Intn(len(letters)):][:1]
			for range 1 + random.Intn(3) {
				name += others[random.Intn(len(others)):][:1]
			}
			if !slices.Contains(list, name) {
				list = append(list, name)
			}
		}
		b := api.Book{Zones: zonesOf(list[:zones]...)}
		for _, name := range list[zones:] {
			b.Links = append(b.Links, api.Link{Name: name, To: list[random.Intn(len(list))]})
		}
		checkBook(t, b)
	}
}
