package seal

import (
	"iter"

	"pinfold/api"
	"pinfold/word"
)

// Heads and tails are told apart by what is folded first.

func heads(key uint64, at uint32) func(tag) []byte { return sealing(key, uint64(at)) }

func tails(key uint64, at uint32) func(tag) []byte { return sealing(uint64(at), key) }

// ends is what stands at both ends of a piece, and where that is by which key.
type ends struct {
	key        uint64
	at         uint32
	head, tail []byte
}

// spoilt goes over what is spoilt there, the head ahead of the tail.
func (x ends) spoilt(t tag) iter.Seq[api.Spoilt] {
	return func(yield func(api.Spoilt) bool) {
		if word.Differ(x.head, heads(x.key, x.at)(t)) >= 0 && !yield(api.SpoiltHead) {
			return
		}
		if word.Differ(x.tail, tails(x.key, x.at)(t)) >= 0 {
			yield(api.SpoiltTail)
		}
	}
}

// first is what is spoilt first.
func (x ends) first(t tag) api.Spoilt {
	which := api.SpoiltNone
spoilt:
	for s := range x.spoilt(t) {
		which = s
		break spoilt
	}
	return which
}
