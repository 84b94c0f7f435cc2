package norm

import (
	"timeball/api"
	"timeball/table"
)

// walk goes through a checked table, from early times to late ones.
type walk struct {
	kind api.Type     // that applies where the walk is
	rest []api.Change // the later ones
	all  []api.Type
}

// Between returns the maximal spans of times within a span in which two tables
// assign different types.
func Between(a, b api.Table, s api.Span) ([]api.Span, api.Errno) {
	if err := table.Check(a); err != api.OK {
		return nil, err
	}
	if err := table.Check(b); err != api.OK {
		return nil, err
	}
	if !isTime(s.From) || !isTime(s.To) || s.To < s.From {
		return nil, api.ErrArg
	}
	var list []api.Span
	first, second := start(a), start(b)
	for from := s.From; from < s.To; {
		first.goTo(from)
		second.goTo(from)
		to := min(first.next(s.To), second.next(s.To))
		if first.kind != second.kind {
			list = add(list, api.Span{From: from, To: to})
		}
		from = to
	}
	return list, api.OK
}

func isTime(n int) bool { return n >= -api.MaxTime && n <= api.MaxTime }

// start returns a walk that is before all changes.
func start(t api.Table) walk {
	return walk{kind: t.Types[t.First], rest: t.Changes, all: t.Types}
}

// goTo goes on to a time.
func (w *walk) goTo(time int) {
	for len(w.rest) > 0 && w.rest[0].At <= time {
		w.kind = w.all[w.rest[0].Type]
		w.rest = w.rest[1:]
	}
}

// next returns the time of the next change, at most a given one.
func (w *walk) next(most int) int {
	if len(w.rest) == 0 {
		return most
	}
	return min(w.rest[0].At, most)
}

// add adds a span to spans that end before it, or where it begins. In the
// latter case it continues the last one.
func add(list []api.Span, s api.Span) []api.Span {
	if last := len(list) - 1; last >= 0 && list[last].To == s.From {
		list[last].To = s.To
		return list
	}
	return append(list, s)
}
