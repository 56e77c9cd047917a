package page

import (
	"iter"

	"pinfold/api"
)

// known tells whether there is such a page.
func known(page int) bool { return page >= 0 && page < api.MaxPages }

// whole tells whether there is each page of a run of one or more. What is left behind its first page is told by a difference: a sum of huge numbers would go round.
func whole(from, many int) bool { return known(from) && many <= api.MaxPages-from }

// falling goes over a run's pages, the last one first.
func falling(from, many int) iter.Seq[int] {
	return func(yield func(int) bool) {
		for page := from + many - 1; page >= from; page-- {
			if !yield(page) {
				return
			}
		}
	}
}

// first tells the first thing that is such, and whether there is one.
func first[T any](all iter.Seq[T], is func(T) bool) (T, bool) {
	var found T
	some := false
things:
	for x := range all {
		some = is(x)
		if some {
			found = x
			break things
		}
	}
	return found, some
}
