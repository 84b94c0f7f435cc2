package state_test

import (
	"math/rand"
	"testing"
	"time"
	_ "time/tzdata" // so that the places are known on every machine

	"timeball/api"
)

// places is a book of some places as they were, for the years that the test
// below names.
const places = `rule EU 1977 1980 4 Sun>=1 1:00u 1:00 S
rule EU 1977 1977 9 lastSun 1:00u 0:00 -
rule EU 1978 1978 10 1 1:00u 0:00 -
rule EU 1979 1995 9 lastSun 1:00u 0:00 -
rule EU 1981 2100 3 lastSun 1:00u 1:00 S
rule EU 1996 2100 10 lastSun 1:00u 0:00 -
rule GB-Eire 1972 1980 3 Sun>=16 2:00s 1:00 BST
rule GB-Eire 1972 1980 10 Sun>=23 2:00s 0:00 GMT
rule GB-Eire 1981 1995 3 lastSun 1:00u 1:00 BST
rule GB-Eire 1981 1989 10 Sun>=23 1:00u 0:00 GMT
rule GB-Eire 1990 1995 10 Sun>=22 1:00u 0:00 GMT
rule US 1967 2006 10 lastSun 2:00 0:00 S
rule US 1967 1973 4 lastSun 2:00 1:00 D
rule US 1974 1974 1 6 2:00 1:00 D
rule US 1975 1975 2 lastSun 2:00 1:00 D
rule US 1976 1986 4 lastSun 2:00 1:00 D
rule US 1987 2006 4 Sun>=1 2:00 1:00 D
rule US 2007 2100 3 Sun>=8 2:00 1:00 D
rule US 2007 2100 11 Sun>=1 2:00 0:00 S
rule AN 2008 2100 4 Sun>=1 2:00s 0:00 S
rule AN 2008 2100 10 Sun>=1 2:00s 1:00 D
rule LH 2008 2100 4 Sun>=1 2:00 0:00 -
rule LH 2008 2100 10 Sun>=1 2:00 0:30 -
rule WS 2010 2010 9 lastSun 0:00 1:00 -
rule WS 2011 2011 4 Sat>=1 4:00 0:00 -
rule WS 2011 2011 9 lastSat 3:00 1:00 -
rule WS 2012 2021 4 Sun>=1 4:00 0:00 -
rule WS 2012 2020 9 lastSun 3:00 1:00 -
zone Europe/Berlin
era 1:00 EU CE%T
zone Europe/London
era 1:00 -0:00 BST 1971-10-31T02:00:00
era 0:00 GB-Eire GMT/BST 1996-01-01T00:00:00
era 0:00 EU GMT/BST
zone America/New_York
era -5:00 US E%T
zone America/Los_Angeles
era -8:00 US P%T
zone Australia/Sydney
era 10:00 AN AE%T
zone Australia/Lord_Howe
era 10:30 LH +1030/+11
zone Asia/Kathmandu
era 5:30 -0:00 +0530 1985-12-31T18:30:00
era 5:45 -0:00 +0545
zone Asia/Kolkata
era 5:30 -0:00 IST
zone Pacific/Apia
era -11:00 WS -11/-10 2011-12-30T10:00:00
era 13:00 WS +13/+14
link America/Detroit America/New_York`

// P15: local time at places, as the library's time zones have it.
func TestPlaces(t *testing.T) {
	b := bookOf(places)
	random := rand.New(rand.NewSource(8))
	for name, from := range map[string]string{
		"Europe/Berlin": "1980-01-01T00:00:00", "Europe/London": "1970-01-01T00:00:00", "America/New_York": "1967-01-01T12:00:00", "America/Los_Angeles": "1967-01-01T12:00:00",
		"Australia/Sydney": "2008-05-01T00:00:00", "Australia/Lord_Howe": "2008-05-01T00:00:00", "Asia/Kathmandu": "1930-01-01T00:00:00", "Asia/Kolkata": "1950-01-01T00:00:00",
		"Pacific/Apia": "2010-01-01T00:00:00", "America/Detroit": "2007-01-01T00:00:00",
	} {
		place, err := time.LoadLocation(name)
		if err != nil {
			t.Fatal(err)
		}
		first, end := timeOf(from), timeOf("2025-01-01T00:00:00")
		check := func(at int) {
			if at < first || at >= end {
				return
			}
			moment := time.Unix(int64(at), 0).In(place)
			abbr, offset := moment.Zone()
			checkType(t, b, name, at, api.Type{Offset: offset, Save: moment.IsDST(), Name: abbr})
		}
		for range 300 {
			check(first + random.Intn(end-first))
		}
		count := 0
		for at := first; at < end; count++ {
			_, next := time.Unix(int64(at), 0).In(place).ZoneBounds()
			check(at)
			if next.IsZero() {
				break
			}
			at = int(next.Unix())
			check(at - 1)
			check(at + 1)
		}
		if count == 0 && name != "Asia/Kolkata" {
			t.Errorf("%s has no changes", name)
		}
	}
}
