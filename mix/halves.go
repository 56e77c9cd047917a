package mix

// high and low are the places of both halves.
const (
	high = iota
	low
)

// word is a word, of which the halves are told.
type word uint64

func (w word) halves() halves { return halves{high: uint32(w >> 32), low: uint32(w)} }

// halves are a word's.
type halves [2]uint32

func halvesOf(w uint64) halves { return word(w).halves() }

// whole is the word of which they are the halves.
func (h halves) whole() uint64 { return uint64(h[high])<<32 | uint64(h[low]) }

// mixed is what a round of that number makes of them.
func (h halves) mixed(by uint32) halves {
	return halves{high: h[low], low: h[high] ^ Stir(h[low], by)}
}

// undone is what such a round made into them: the half that it stirred stands untouched as the high one, so that it can be stirred once more.
func (h halves) undone(by uint32) halves {
	return halves{high: h[low] ^ Stir(h[high], by), low: h[high]}
}
