package bits

import "pinfold/api"

const (
	// most is how many places there may be.
	most = 4096
	// wide is how many places a word has.
	wide = 64
)

// place is a place's word, and its bit there.
type place [2]int

func placeOf(at int) place { return place{at / wide, at % wide} }

func (p place) at() int { return p[0]*wide + p[1] }

// bit is a word in which that bit alone stands.
func (p place) bit() uint64 { return 1 << p[1] }

// extent is how many places there are.
type extent int

// extentOf is of as many places as that, if there may be so many.
func extentOf(many int) (extent, api.Errno) {
	if many < 0 || many > most {
		goto refused
	}
	return extent(many), api.OK
refused:
	return 0, api.ErrArg
}

// holds tells whether there is such a place.
func (n extent) holds(at int) bool { return at >= 0 && at < int(n) }

// list is as many words as the places take, in which no bit stands.
func (n extent) list() []uint64 { return make([]uint64, (int(n)+wide-1)/wide) }

// real is, of a word, the bits that are places: the last word may have more bits than there are places left. Where a whole word or more is left the shift leaves nothing, and one less than that is all bits.
func (n extent) real(word int) uint64 { return 1<<(int(n)-word*wide) - 1 }
