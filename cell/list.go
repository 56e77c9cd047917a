package cell

import (
	"iter"

	"pinfold/api"
)

// most is how many cells there may be.
const most = 1024

// one is a cell: its word, and how often it was written.
type one struct {
	word  uint64
	count int
}

// swap writes a word, if there is the one that is asked for: was there? A word that is written over by itself is written too.
func (o *one) swap(from, to uint64) bool {
	if o.word != from {
		return false
	}
	o.word = to
	o.count++
	return true
}

// list is cells, by their numbers.
type list []one

// holds tells whether there is such a cell.
func (l list) holds(at int) bool { return at >= 0 && at < len(l) }

// words are those of all cells.
func (l list) words() []uint64 {
	all := make([]uint64, 0, len(l))
	for _, o := range l {
		all = append(all, o.word)
	}
	return all
}

// asked is what is asked of a cell, if there is such a one.
func asked[T any](c *Cells, at int, what func(*one) T) (T, api.Errno) {
	var nothing T
	e := api.ErrNil
	if !c.there() {
		goto none
	}
	e = api.ErrRange
	if !c.holds(at) {
		goto none
	}
	return what(&c.list[at]), api.OK
none:
	return nothing, e
}

// notZero goes over the numbers that are not 0, each with its place.
func notZero(numbers ...uint64) iter.Seq2[int, uint64] {
	return func(yield func(int, uint64) bool) {
		for at, n := range numbers {
			if n != 0 && !yield(at, n) {
				return
			}
		}
	}
}
