package book

import (
	"slices"

	"timeball/api"
	"timeball/clock"
	"timeball/rule"
)

// validator checks the book that it embeds.
type validator struct{ api.Book }

// Check returns the first error of a book.
func Check(b api.Book) api.Errno {
	v := validator{b}
	if len(v.Rules) > api.MaxRules || len(v.Zones) > api.MaxZones || len(v.Links) > api.MaxLinks {
		return api.ErrLarge
	}
	for _, r := range v.Rules {
		if err := rule.Check(r); err != api.OK {
			return err
		}
	}
	for i := range v.Zones {
		if err := v.checkZone(i); err != api.OK {
			return err
		}
	}
	return v.checkLinks()
}

// checkZone checks the zone at an index: zones before it must not have its
// name.
func (v validator) checkZone(i int) api.Errno {
	zone := v.Zones[i]
	sameName := func(other api.Zone) bool { return other.Name == zone.Name }
	switch {
	case !rule.IsName(zone.Name):
		return api.ErrSyntax
	case slices.ContainsFunc(v.Zones[:i], sameName):
		return api.ErrTwice
	case len(zone.Eras) == 0:
		return api.ErrForm
	case len(zone.Eras) > api.MaxEras:
		return api.ErrLarge
	}
	for k, era := range zone.Eras {
		if err := v.checkEra(era); err != api.OK {
			return err
		}
		if err := checkUntil(zone.Eras, k); err != api.OK {
			return err
		}
	}
	return api.OK
}

// checkEra checks an era except for its Until.
func (v validator) checkEra(era api.Era) api.Errno {
	if era.Offset < -api.MaxOffset || era.Offset > api.MaxOffset || !isSave(era.Save) {
		return api.ErrArg
	}
	if era.Rules == "" {
		_, err := Abbr(era.Format, era.Save, noLetter)
		return err
	}
	if era.Save != 0 {
		return api.ErrForm
	}
	return v.checkRules(era)
}

// checkRules checks that there are rules for an era, and that its format suits
// them all.
func (v validator) checkRules(era api.Era) api.Errno {
	named := func(r api.Rule) bool { return r.Name == era.Rules }
	if !slices.ContainsFunc(v.Rules, named) {
		return api.ErrNone
	}
	for _, r := range v.Rules {
		if !named(r) {
			continue
		}
		if _, err := Abbr(era.Format, r.Save, r.Letter); err != api.OK {
			return err
		}
	}
	// Before the first rule applies, there is perhaps no letter.
	_, err := Abbr(era.Format, 0, noLetter)
	return err
}

// checkUntil checks the Until of the era at an index.
func checkUntil(eras []api.Era, i int) api.Errno {
	until := eras[i].Until
	if i == len(eras)-1 {
		if until != 0 {
			return api.ErrForm
		}
		return api.OK
	}
	// The times that have timestamps are all within MaxTime.
	if _, err := clock.Stamp(until); err != api.OK {
		return api.ErrArg
	}
	if i > 0 && until <= eras[i-1].Until {
		return api.ErrForm
	}
	return api.OK
}

func (v validator) checkLinks() api.Errno {
	// A link must not have the name of an earlier link, but may lead to any.
	isKnown := func(name string, links []api.Link) bool {
		return slices.ContainsFunc(v.Zones, func(z api.Zone) bool { return z.Name == name }) ||
			slices.ContainsFunc(links, func(k api.Link) bool { return k.Name == name })
	}
	for i, link := range v.Links {
		switch {
		case !rule.IsName(link.Name) || !rule.IsName(link.To):
			return api.ErrSyntax
		case isKnown(link.Name, v.Links[:i]):
			return api.ErrTwice
		case !isKnown(link.To, v.Links):
			return api.ErrNone
		}
	}
	return api.OK
}
