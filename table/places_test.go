package table_test

import (
	"slices"
	"testing"
	"time"
	_ "time/tzdata" // so that the places are known on every machine

	"timeball/api"
)

// places is a book of some places as they were, for the years that the test
// below names.
const places = `rule EU 1977 1980 4 Sun>=1 1:00u 1:00 S
rule EU 1977 1977 9 lastSun 1:00u 0:00 -
rule EU 1978 1978 10 1 1:00u 0:00 -
rule EU 1979 1995 9 lastSun 1:00u 0:00 -
rule EU 1981 2100 3 lastSun 1:00u 1:00 S
rule EU 1996 2100 10 lastSun 1:00u 0:00 -
rule GB-Eire 1972 1980 3 Sun>=16 2:00s 1:00 BST
rule GB-Eire 1972 1980 10 Sun>=23 2:00s 0:00 GMT
rule GB-Eire 1981 1995 3 lastSun 1:00u 1:00 BST
rule GB-Eire 1981 1989 10 Sun>=23 1:00u 0:00 GMT
rule GB-Eire 1990 1995 10 Sun>=22 1:00u 0:00 GMT
rule US 1967 2006 10 lastSun 2:00 0:00 S
rule US 1967 1973 4 lastSun 2:00 1:00 D
rule US 1974 1974 1 6 2:00 1:00 D
rule US 1975 1975 2 lastSun 2:00 1:00 D
rule US 1976 1986 4 lastSun 2:00 1:00 D
rule US 1987 2006 4 Sun>=1 2:00 1:00 D
rule US 2007 2100 3 Sun>=8 2:00 1:00 D
rule US 2007 2100 11 Sun>=1 2:00 0:00 S
rule WS 2010 2010 9 lastSun 0:00 1:00 -
rule WS 2011 2011 4 Sat>=1 4:00 0:00 -
rule WS 2011 2011 9 lastSat 3:00 1:00 -
rule WS 2012 2021 4 Sun>=1 4:00 0:00 -
rule WS 2012 2020 9 lastSun 3:00 1:00 -
zone Europe/Berlin
era 1:00 EU CE%T
zone Europe/London
era 1:00 -0:00 BST 1971-10-31T02:00:00
era 0:00 GB-Eire GMT/BST 1996-01-01T00:00:00
era 0:00 EU GMT/BST
zone America/New_York
era -5:00 US E%T
zone Asia/Kathmandu
era 5:30 -0:00 +0530 1985-12-31T18:30:00
era 5:45 -0:00 +0545
zone Asia/Kolkata
era 5:30 -0:00 IST
zone Pacific/Apia
era -11:00 WS -11/-10 2011-12-30T10:00:00
era 13:00 WS +13/+14
link America/Detroit America/New_York`

// tableOfPlace returns the table of a place for a span, as the library's time
// zones have it.
func tableOfPlace(t *testing.T, name string, s api.Span) (x api.Table) {
	t.Helper()
	place, err := time.LoadLocation(name)
	if err != nil {
		t.Fatal(err)
	}
	typeOf := func(moment time.Time) int {
		abbr, offset := moment.Zone()
		kind := api.Type{Offset: offset, Save: moment.IsDST(), Name: abbr}
		if !slices.Contains(x.Types, kind) {
			x.Types = append(x.Types, kind)
		}
		return slices.Index(x.Types, kind)
	}
	moment := time.Unix(int64(s.From), 0).In(place)
	latest := typeOf(moment)
	for {
		_, moment = moment.ZoneBounds()
		if moment.IsZero() || int(moment.Unix()) >= s.To {
			return x
		}
		if number := typeOf(moment); number != latest {
			x.Changes = append(x.Changes, api.Change{At: int(moment.Unix()), Type: number})
			latest = number
		}
	}
}

// P17: tables of places, as the library's time zones have them.
func TestPlaces(t *testing.T) {
	b := bookOf(places)
	for name, least := range map[string]struct {
		from    string
		changes int
	}{
		"Europe/Berlin": {"1980-01-01T00:00:00", 90}, "Europe/London": {"1970-01-01T00:00:00", 107}, "America/New_York": {"1967-01-01T12:00:00", 116},
		"Asia/Kathmandu": {"1930-01-01T00:00:00", 1}, "Asia/Kolkata": {"1950-01-01T00:00:00", 0}, "Pacific/Apia": {"2010-01-01T00:00:00", 23}, "America/Detroit": {"2007-01-01T00:00:00", 36},
	} {
		s := spanOf(least.from, "2025-01-01T00:00:00")
		want := tableOfPlace(t, name, s)
		if len(want.Changes) < least.changes {
			t.Errorf("%s has %d changes only", name, len(want.Changes))
		}
		checkTable(t, b, name, s, want)
		// Spans that begin or end at a change, or one second beside it.
		for i, change := range want.Changes {
			if i%9 > 0 {
				continue
			}
			for add := -1; add <= 1; add++ {
				later, earlier := api.Span{From: change.At + add, To: s.To}, api.Span{From: s.From, To: change.At + add}
				checkTable(t, b, name, later, tableOfPlace(t, name, later))
				checkTable(t, b, name, earlier, tableOfPlace(t, name, earlier))
			}
		}
	}
}
