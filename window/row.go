package window

import "iter"

// row is runs of as many pages each, each one so many steps behind the one ahead.
type row struct{ first, step, pages, runs int }

// spot is where a page is in a row: in which run, and which page of that. It is not there if the page is in none.
type spot struct {
	run, place int
	there      bool
}

// find tells where a page is. A page behind a run, ahead of the next one, is in none.
func (r row) find(page int) spot {
	behind := page - r.first
	if !number(behind).below(r.runs*r.step) || behind%r.step >= r.pages {
		goto none
	}
	return spot{behind / r.step, behind % r.step, true}
none:
	return spot{}
}

// all goes over the runs, rising: each one's number and first page.
func (r row) all() iter.Seq2[int, int] {
	return func(yield func(int, int) bool) {
		for run := range r.runs {
			if !yield(run, number(run).in(r)) {
				return
			}
		}
	}
}
