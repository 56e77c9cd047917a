package feed

import (
	"iter"

	"pinfold/api"
)

// most is among how many a pick may be: a byte tells no more apart.
const most = 256

// drawn is how many bytes a draw takes.
const drawn = 4

// row is a feed's bytes.
type row []byte

// has tells whether there is such a place: each byte's, and that behind the last one.
func (r row) has(at int) bool { return at >= 0 && at <= len(r) }

// from are the bytes from a place on.
func (r row) from(at int) []byte { return r[at:] }

// left are the bytes that are left, none of no feed.
func (f *Feed) left() []byte {
	if !f.there() {
		return nil
	}
	return f.from(f.at)
}

// picked is the error of a pick among n.
func (f *Feed) picked(n int) api.Errno {
	return asked(
		question{f.there, api.ErrNil},
		question{func() bool { return n >= 1 && n <= most }, api.ErrArg},
	)
}

// pick is a pick among n.
func (f *Feed) pick(n int) int {
	return taken(f, 1, func(l ...byte) int { return int(number(l...)) % n })
}

// rest goes over picks as long as bytes are left. Each byte is taken ahead of being told, so that who is told may take more, or send the feed back.
func (f *Feed) rest(n int) iter.Seq[int] {
	return func(yield func(int) bool) {
		for len(f.left()) > 0 && yield(f.pick(n)) {
		}
	}
}

// taken takes so many bytes of a feed, or as many as are left, and answers what is made of them. What makes it does not keep them: they are the feed's own.
func taken[T any](f *Feed, many int, made func(...byte) T) T {
	l := first(many, f.left)
	f.at += len(l)
	return made(l...)
}

// first are so many of some bytes, or as many as there are.
func first(many int, some func() []byte) []byte {
	l := some()
	return l[:min(many, len(l))]
}

// number is the one of those bytes, the lowest ahead: those that are missing count as 0.
func number(l ...byte) uint32 {
	sum := uint32(0)
	for i, b := range l {
		sum |= uint32(b) << (8 * i)
	}
	return sum
}
