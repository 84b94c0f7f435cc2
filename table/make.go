package table

import (
	"timeball/api"
	"timeball/book"
	"timeball/clock"
	"timeball/names"
	"timeball/state"
	"timeball/turns"
)

// The name of the zone in a book with one era.
const onlyZone = "Zone"

// builder is the table that it embeds, as far as it is built.
type builder struct {
	api.Table
	numbers map[api.Type]int // of the types in the table
	latest  int              // the number of the type after the last change
}

// Make compiles the table of a zone for a span of times.
func Make(b api.Book, name string, s api.Span) (api.Table, api.Errno) {
	zone, err := names.Resolve(b, name)
	if err != api.OK {
		return api.Table{}, err
	}
	if !isSpan(s) {
		return api.Table{}, api.ErrArg
	}
	t := builder{numbers: map[api.Type]int{}}
	rest := s
	for i, era := range zone.Eras {
		part := rest
		if i < len(zone.Eras)-1 {
			part.To = min(era.Until, rest.To)
		}
		// The rules of an era count even if no time of the span is in it.
		if err := t.addEra(b.Rules, era, part); err != api.OK {
			return api.Table{}, err
		}
		rest.From = max(part.To, rest.From)
	}
	if isLarge(t.Table) {
		return api.Table{}, api.ErrLarge
	}
	return t.Table, api.OK
}

// isSpan reports whether there may be a table for a span of times.
func isSpan(s api.Span) bool {
	_, fromErr := clock.Stamp(s.From)
	_, toErr := clock.Stamp(s.To)
	return fromErr == api.OK && toErr == api.OK && s.To > s.From
}

// addEra adds the types that apply in a part of an era of a checked book, which
// may be empty.
func (t *builder) addEra(rules []api.Rule, era api.Era, part api.Span) api.Errno {
	alone := bookOf(rules, era)
	var list []api.Turn
	if era.Rules != "" {
		var err api.Errno
		if list, err = turns.Of(alone, era.Rules, era.Offset); err != api.OK {
			return err
		}
	}
	if part.To <= part.From {
		return api.OK
	}
	// No error is left: the rules have transitions, and the time is in the span.
	kind, _ := state.At(alone, onlyZone, part.From)
	t.apply(part.From, kind)
	for _, turn := range list {
		if turn.At > part.From && turn.At < part.To {
			t.apply(turn.At, typeAfter(era, turn))
		}
	}
	return api.OK
}

// bookOf returns a book in which an era of a checked book is alone. It says the
// same about the era, and takes less time when it is checked again.
func bookOf(rules []api.Rule, era api.Era) api.Book {
	era.Until = 0
	return api.Book{Rules: rules, Zones: []api.Zone{{Name: onlyZone, Eras: []api.Era{era}}}}
}

// typeAfter returns the type that applies in an era after a transition.
func typeAfter(era api.Era, turn api.Turn) api.Type {
	// In a checked book, each saving and letter of an era has an abbreviation.
	name, _ := book.Abbr(era.Format, turn.Save, turn.Letter)
	return api.Type{Offset: era.Offset + turn.Save, Save: turn.Save > 0, Name: name}
}

// apply notes that a type applies from a time on, which is later than those
// before.
func (t *builder) apply(from int, kind api.Type) {
	number, isKnown := t.numbers[kind]
	if !isKnown {
		number = len(t.Types)
		t.numbers[kind] = number
		t.Types = append(t.Types, kind)
	}
	// The first type of all has the number 0, as First and latest have it already:
	// it makes no change.
	if number != t.latest {
		t.Changes = append(t.Changes, api.Change{At: from, Type: number})
		t.latest = number
	}
}
