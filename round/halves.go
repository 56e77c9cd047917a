package round

import (
	"math/bits"

	"pinfold/api"
)

// high and low are the places of both halves.
const (
	high = iota
	low
)

// halves are a number of 128 bits: wide enough for what two numbers come to, so that it is seen when that is too great.
type halves [2]uint64

func (h halves) over() bool { return h[high] != 0 }

func (h halves) plus(n uint64) halves {
	sum, carry := bits.Add64(h[low], n, 0)
	return halves{h[high] + carry, sum}
}

func (h halves) times(n uint64) halves {
	if n == 0 {
		return halves{}
	}
	// What is too great stays so till it meets a 0; what it is exactly might be above 128 bits.
	if h.over() {
		return h
	}
	up, down := bits.Mul64(h[low], n)
	return halves{up, down}
}

// number tells the low half, if that is all of it.
func (h halves) number() (uint64, api.Errno) {
	if h.over() {
		goto great
	}
	return h[low], api.OK
great:
	return 0, api.ErrOver
}

// worked tells what a list comes to: what none come to, and each thing in its turn.
func worked[T any](none halves, l []T, with func(halves, T) halves) (uint64, api.Errno) {
	all := none
	for _, x := range l {
		all = with(all, x)
	}
	return all.number()
}
