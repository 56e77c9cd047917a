package state

import (
	"iter"

	"pinfold/api"
)

// most is how many slots a sheet may have.
const most = 256

// states are those of slots, by the slots' numbers.
type states []api.State

// has tells whether there is such a slot.
func (l states) has(at int) bool { return at >= 0 && at < len(l) }

// counted tells how many things are such.
func counted[T any](is func(T) bool, l ...T) int {
	many := 0
	for _, x := range l {
		if is(x) {
			many++
		}
	}
	return many
}

// places goes over the places, rising, at which that state stands.
func places(x api.State, l ...api.State) iter.Seq[int] {
	return func(yield func(int) bool) {
		for at, y := range l {
			if y == x && !yield(at) {
				return
			}
		}
	}
}
