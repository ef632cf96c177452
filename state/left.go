package state

import (
	"cmp"
	"slices"
	"sort"

	"cenotaph/api"
	"cenotaph/mut"
	"cenotaph/stamp"
)

// Of: what is left of mutations (those that may not be are passed over).
func Of(l ...api.Mut) Content {
	var last, causal []api.Mut
	for _, m := range l {
		switch {
		case !mut.Right(m):
		case m.Table == api.Causal:
			causal = append(causal, mut.Copy(m))
		default:
			last = append(last, mut.Copy(m))
		}
	}
	cells, wipes := unhidden(last)
	slices.SortFunc(wipes, mut.Compare)
	return Content{Cells: greatest(cells), Wipes: wipes, Sibs: once(causal)}
}

// unhidden: the mutations of tables of the last one that no wipe hides: what isn't a wipe, and the wipes.
func unhidden(l []api.Mut) (cells, wipes []api.Mut) {
	// From the latest one on all that may hide one comes ahead of it. Of one stamp wipes come last, as they hide no others of it; the wider ones first, as they have narrower ones within.
	slices.SortFunc(l, func(a, b api.Mut) int {
		return cmp.Or(stamp.Compare(b.At, a.At), cmp.Compare(a.Kind, b.Kind), cmp.Compare(a.Key, b.Key), cmp.Compare(b.End, a.End))
	})
	var ahead stairs
	for _, m := range l {
		switch {
		case m.Kind != api.Wipe:
			if !ahead.hold(span{m.Key, m.Key + "\x00"}) { // the span of this key alone
				cells = append(cells, m)
			}
		case !ahead.hold(span{m.Key, m.End}):
			ahead = ahead.with(span{m.Key, m.End})
			wipes = append(wipes, m)
		}
	}
	return cells, wipes
}

// greatest: of each key the greatest one, rising by keys.
func greatest(l []api.Mut) []api.Mut {
	slices.SortFunc(l, func(a, b api.Mut) int {
		return cmp.Or(cmp.Compare(a.Key, b.Key), mut.Compare(b, a))
	})
	return slices.CompactFunc(l, func(a, b api.Mut) bool { return a.Key == b.Key })
}

// once: each one once, rising by keys, those of one key by themselves.
func once(l []api.Mut) []api.Mut {
	slices.SortFunc(l, func(a, b api.Mut) int {
		return cmp.Or(cmp.Compare(a.Key, b.Key), mut.Compare(a, b))
	})
	return slices.CompactFunc(l, mut.Same)
}

// span is all texts from one up to ahead of another one.
type span struct {
	from, to string
}

// stairs are spans none of which is within another one: from each to the next both ends rise.
type stairs []span

// hold: is a span within one of them?
func (s stairs) hold(x span) bool {
	behind := sort.Search(len(s), func(i int) bool { return s[i].from > x.from })
	return behind > 0 && s[behind-1].to >= x.to // of those that begin early enough the last one ends last
}

// with: with a span more, that they don't hold; those within it go.
func (s stairs) with(x span) stairs {
	first := sort.Search(len(s), func(i int) bool { return s[i].from >= x.from })
	behind := sort.Search(len(s), func(i int) bool { return s[i].to > x.to })
	return slices.Replace(s, first, behind, x)
}
