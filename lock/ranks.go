package lock

import (
	"iter"

	"pinfold/api"
	"pinfold/cell"
)

// most is how many locks there may be.
const most = 64

// none is what a thread waits for that waits for no lock.
const none = -1

// free is the word of a lock that is nobody's.
const free uint64 = 0

// mark is the word of a thread's lock: never that of a free one.
func mark(thread int) uint64 { return uint64(thread) + 1 }

// marked is the thread whose lock has that word.
func marked(word uint64) int { return int(word) - 1 }

// known tells whether there is such a thread.
func known(thread int) bool { return thread >= 0 && thread < api.MaxThreads }

// ranks are locks, by their ranks: each a cell, so that it is tried and taken at one swap.
type ranks struct {
	*cell.Cells
}

// has tells whether there is such a lock.
func (r ranks) has(rank int) bool { return rank >= 0 && rank < r.Len() }

// holder tells whose a lock is, and whether it is somebody's. One that there is not is nobody's.
func (r ranks) holder(rank int) (int, bool) {
	word, e := r.Load(rank)
	if e != api.OK || word == free {
		return 0, false
	}
	return marked(word), true
}

// owned goes over the locks that are somebody's, rising, each with its thread, as they are now.
func (r ranks) owned() iter.Seq2[int, int] {
	// The cells' own, as they are now, whoever tries and frees later.
	all := r.All()
	return func(yield func(int, int) bool) {
	locks:
		for rank, word := range all {
			if !yield(rank, marked(word)) {
				break locks
			}
		}
	}
}

// held are the locks that a thread has, rising.
func (r ranks) held(thread int) []int {
	return such(r.owned(), func(_, who int) bool { return who == thread })
}

// open tells whether a thread may try a lock: it has none of that rank, nor of a greater one.
func (r ranks) open(thread, rank int) bool {
	return len(such(r.owned(), func(at, who int) bool { return who == thread && at >= rank })) == 0
}

// such are the first ones of those pairs that are such.
func such[K, V any](all iter.Seq2[K, V], is func(K, V) bool) []K {
	var l []K
	for k, v := range all {
		if is(k, v) {
			l = append(l, k)
		}
	}
	return l
}
