package seal

import (
	"pinfold/mix"
	"pinfold/word"
)

// wide is the width of a word's bytes.
const wide = 8

// pair is two words; those of a tag are its word and the one all of whose bits are the other ones, so that hardly any bytes made without the key are a tag's.
type pair [2]uint64

func pairOf(w uint64) pair { return pair{w, ^w} }

// read is the pair of words whose bytes they are.
func read(b []byte) pair {
	var p pair
	for at, part := range word.Parts(b, wide) {
		p[at/wide], _ = word.Get(part)
	}
	return p
}

// matched tells whether one's bits are all other ones than the other's.
func (p pair) matched() bool { return p == pairOf(p[0]) }

// each is what becomes of both.
func (p pair) each(does func(w uint64) uint64) pair { return pair{does(p[0]), does(p[1])} }

func (p pair) bytes() []byte { return bytesOf(p[:]...) }

// bytesOf are the bytes of words, one behind the other.
func bytesOf(l ...uint64) []byte {
	var all []byte
	for _, w := range l {
		b, _ := word.Put(w, wide)
		all = word.Joined(all, b)
	}
	return all
}

// sealing makes a tag's bytes, by what words are folded to.
func sealing(l ...uint64) func(tag) []byte {
	key := mix.Fold(l...)
	return func(t tag) []byte {
		return pairOf(t.word()).each(func(w uint64) uint64 { return mix.Mix(key, w) }).bytes()
	}
}

// opening makes sealed bytes the pair that they were made of, by what words are folded to.
func opening(l ...uint64) func([]byte) pair {
	key := mix.Fold(l...)
	return func(b []byte) pair {
		return read(b).each(func(w uint64) uint64 { return mix.Undo(key, w) })
	}
}
