package window

import (
	"iter"
	"slices"

	"pinfold/api"
)

// look is a page under way: where it is among the books, among the windows, and among its window's regions.
type look struct{ book, window, region spot }

func lookAt(page int) look {
	l := look{book: books().find(page), window: windows().find(page)}
	if l.window.there {
		l.region = tenant{number(l.window.run)}.regions().find(page)
	}
	return l
}

// inWindow is a site that is told by its window's page alone.
func (l look) inWindow(kind api.SiteKind) api.Site {
	return api.Site{Kind: kind, Slot: l.window.run, Place: l.window.place}
}

// sort is what a page may be: whether it is that, and what is told of it then.
type sort struct {
	fits func(look) bool
	site func(look) api.Site
}

// sorts are all that there are. A page may fit several, and is the first of those: each great page would be a gap too.
func sorts() []sort {
	return []sort{
		{
			func(l look) bool { return l.book.there },
			func(l look) api.Site {
				return api.Site{Kind: api.SiteBook, Slot: l.book.run, Place: l.book.place}
			},
		},
		{
			func(l look) bool { return l.region.there },
			func(l look) api.Site {
				return api.Site{Kind: api.SiteRegion, Slot: l.window.run, Class: l.region.run, Place: l.region.place}
			},
		},
		{
			func(l look) bool { return l.window.there && l.window.place >= greatFrom },
			func(l look) api.Site { return l.inWindow(api.SiteGreat) },
		},
		{
			func(l look) bool { return l.window.there },
			func(l look) api.Site { return l.inWindow(api.SiteGap) },
		},
	}
}

// first tells the first thing that fits, and whether there is one.
func first[T any](all iter.Seq[T], fits func(T) bool) (T, bool) {
	var found T
	is := false
things:
	for x := range all {
		if fits(x) {
			found, is = x, true
			break things
		}
	}
	return found, is
}

// siteOf tells what a page is that there is.
func siteOf(page int) api.Site {
	l := lookAt(page)
	s, is := first(slices.Values(sorts()), func(s sort) bool { return s.fits(l) })
	if !is {
		goto none
	}
	return s.site(l)
none:
	// In no window, and no slot's book.
	return api.Site{Kind: api.SiteNone}
}
