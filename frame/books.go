package frame

import (
	"iter"
	"maps"
	"slices"
)

// most is how many owners there may be.
const most = 64

// known tells whether there is such an owner.
func known(owner int) bool { return owner >= 0 && owner < most }

// books are how many frames there are, whose they are, and who may have more of them. How many an owner has reserved is what is left to it and what it has: that is not kept.
type books struct {
	many   int
	owners map[int]int
	left   [most]int
}

// is tells whether there is such a frame.
func (b *books) is(frame int) bool { return frame >= 0 && frame < b.many }

// owned tells whether a frame is somebody's.
func (b *books) owned(frame int) bool {
	_, is := b.owners[frame]
	return is
}

// has is how many frames an owner has.
func (b *books) has(owner int) int {
	return counted(maps.Values(b.owners), func(x int) bool { return x == owner })
}

// reserved is how many an owner has reserved.
func (b *books) reserved(owner int) int { return b.left[owner] + b.has(owner) }

// room is how many are neither somebody's nor left to somebody.
func (b *books) room() int {
	room := b.many - len(b.owners)
	for _, left := range b.left {
		room -= left
	}
	return room
}

// enter writes a free frame down as an owner's.
func (b *books) enter(frame, owner int) {
	b.owners[frame] = owner
	b.left[owner]--
}

// leave strikes out a frame that is somebody's: one more is left to its owner.
func (b *books) leave(frame int) {
	b.left[b.owners[frame]]++
	delete(b.owners, frame)
}

// rising goes over the frames that are somebody's, rising, each with its owner.
func (b *books) rising() iter.Seq2[int, int] {
	return func(yield func(int, int) bool) {
		for _, frame := range slices.Sorted(maps.Keys(b.owners)) {
			if !yield(frame, b.owners[frame]) {
				return
			}
		}
	}
}

// alike tells whether the same stands in both.
func (b *books) alike(o *books) bool {
	return b.many == o.many && b.left == o.left && maps.Equal(b.owners, o.owners)
}

// counted tells how many things are such.
func counted[T any](all iter.Seq[T], is func(T) bool) int {
	n := 0
	for x := range all {
		if is(x) {
			n++
		}
	}
	return n
}
