package round

import "iter"

// step is what numbers are multiples of.
type step uint64

// none tells whether it leads nowhere.
func (s step) none() bool { return s == 0 }

// past tells how far a number is past the last multiple; there is a step.
func (s step) past(n uint64) uint64 { return n % uint64(s) }

// whole tells how many steps lie in a number; there is a step.
func (s step) whole(n uint64) uint64 { return n / uint64(s) }

// number is a number under way, and the step that it goes by.
type number struct {
	step
	value uint64
}

func numberOf(n, by uint64) number { return number{step(by), n} }

func (x number) multiple() bool { return x.past(x.value) == 0 }

func (x number) down() uint64 { return x.value - x.past(x.value) }

func (x number) up() halves {
	at := halves{low: x.down()}
	if x.multiple() {
		return at
	}
	return at.plus(uint64(x.step))
}

// many counts by itself, as the multiple above may be too great where the count is not.
func (x number) many() uint64 {
	n := x.whole(x.value)
	if !x.multiple() {
		n++
	}
	return n
}

// rising goes over the number, and on by its step, up to the last one that is not too great.
func (x number) rising() iter.Seq[uint64] {
	return func(yield func(uint64) bool) {
		if x.none() {
			return
		}
		for at := (halves{low: x.value}); !at.over(); at = at.plus(uint64(x.step)) {
			if !yield(at[low]) {
				return
			}
		}
	}
}
