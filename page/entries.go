package page

import (
	"iter"
	"maps"
	"slices"

	"pinfold/api"
)

// owners is how many owners there may be, beside nobody.
const owners = 64

// allowed tells what may be done in a page.
func allowed(may api.May) bool { return may >= api.MayNone && may <= api.MayWrite }

// proper tells which entries there may be.
func proper(x api.Entry) bool {
	return x.Owner >= api.Nobody && x.Owner < owners && allowed(x.May) && x.Frame >= 0
}

// entries are those of the pages that are mapped.
type entries struct {
	pages map[int]api.Entry
	// frames are those that a page has: without them all entries would be gone over whenever a page is mapped.
	frames map[int]struct{}
}

// mapped tells whether a page is.
func (l *entries) mapped(page int) bool {
	_, is := l.pages[page]
	return is
}

// framed tells whether a page has that frame.
func (l *entries) framed(frame int) bool {
	_, is := l.frames[frame]
	return is
}

// enter maps a page that is not mapped.
func (l *entries) enter(page int, x api.Entry) {
	l.pages[page], l.frames[x.Frame] = x, struct{}{}
}

// leave unmaps a page that is mapped: what its entry was.
func (l *entries) leave(page int) api.Entry {
	x := l.pages[page]
	delete(l.pages, page)
	delete(l.frames, x.Frame)
	return x
}

// allow changes what may be done in a page that is mapped: what might be.
func (l *entries) allow(page int, may api.May) api.May {
	x := l.pages[page]
	was := x.May
	x.May = may
	l.pages[page] = x
	return was
}

// last tells the greatest page of a run that is mapped, and whether there is one.
func (l *entries) last(from, many int) (int, bool) {
	return first(falling(from, many), l.mapped)
}

// rising goes over the pages that are mapped, rising, each with its entry.
func (l *entries) rising() iter.Seq2[int, api.Entry] {
	return func(yield func(int, api.Entry) bool) {
		for _, page := range slices.Sorted(maps.Keys(l.pages)) {
			if !yield(page, l.pages[page]) {
				return
			}
		}
	}
}

// copied are others of the same.
func (l *entries) copied() entries {
	return entries{maps.Clone(l.pages), maps.Clone(l.frames)}
}

// such are those things, in another map, that are such.
func such[K comparable, V any](all map[K]V, is func(V) bool) map[K]V {
	some := map[K]V{}
	for k, x := range all {
		if is(x) {
			some[k] = x
		}
	}
	return some
}
