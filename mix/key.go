package mix

import "iter"

const (
	// first and last are the rounds that there are at both ends.
	first = 0
	last  = 7
	// apart keeps the numbers of rounds unlike that take the same half of a key.
	apart = 2654435769
)

// key is a key under way, and the round that it is at.
type key struct {
	word
	round int
}

func keyAt(w uint64, round int) key { return key{word(w), round} }

// known tells whether there is such a round.
func (k key) known() bool { return k.round >= first && k.round <= last }

// number is that of a round that there is.
func (k key) number() uint32 {
	half := low
	if k.round%2 == 1 {
		half = high
	}
	return k.halves()[half] + uint32(k.round)*apart
}

// on goes over the key from its round on, by so many rounds at a time, without end.
func (k key) on(by int) iter.Seq[key] {
	return func(yield func(key) bool) {
		for at := k; yield(at); at.round += by {
		}
	}
}

// through does what a round does, for the key's round and on, till there is none.
func (k key) through(by int, does func(number uint32)) {
rounds:
	for at := range k.on(by) {
		if !at.known() {
			break rounds
		}
		does(at.number())
	}
}
