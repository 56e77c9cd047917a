package large

import (
	"iter"

	"pinfold/api"
	"pinfold/meta"
	"pinfold/window"
)

// piece is that of a number; false, if none has it yet.
func (b book) piece(number int) (piece, bool) {
	g, e := meta.GetGreat(b.memory, b.tenant, number)
	if e == api.ErrBook {
		return b.lost(number), true
	}
	return piece{g, number}, e == api.OK && g.State != api.StateFree
}

// lost stands for a piece of which no record tells where it lay: at the great pages' end, so that none comes behind it that might have its pages.
func (b book) lost(number int) piece {
	_, until, _ := window.Great(b.tenant)
	return piece{api.Great{State: api.StateGone, First: until}, number}
}

// pieces goes over all that ever came, rising; over none of a book that is not open.
func (b book) pieces() iter.Seq[piece] {
	return func(yield func(piece) bool) {
	numbers:
		for number := range api.MaxGreat {
			p, is := b.piece(number)
			if !is || !yield(p) {
				break numbers
			}
		}
	}
}

// live are those that are.
func (b book) live() []piece {
	var l []piece
	for p := range b.pieces() {
		if p.live() {
			l = append(l, p)
		}
	}
	return l
}

// last is the piece that came last. Where none came that is one of no pages, where the great pages begin: behind it, too, lies a page that nobody has.
func (b book) last() piece {
	from, _, _ := window.Great(b.tenant)
	last := piece{api.Great{First: from}, -1}
	for p := range b.pieces() {
		last = p
	}
	return last
}

// next is the piece that comes next, if it is one of so many pages, and of that size.
func (b book) next(pages, size int) piece {
	last := b.last()
	g := api.Great{State: api.StateLive, Pages: pages, Size: size, First: last.ends()[behind] + 1}
	return piece{g, last.number + 1}
}

// room is how many pages the next piece may have, so that the page behind it lies below the great pages' end, too.
func (b book) room(next piece) int {
	_, until, _ := window.Great(b.tenant)
	if next.number == api.MaxGreat {
		return 0
	}
	return min(max(until-1-next.First, 0), api.MostPages)
}

// at is the live piece that begins somewhere; false, if none does.
func (b book) at(at uint32) (piece, bool) {
	var found piece
	is := false
pieces:
	for p := range b.pieces() {
		is = p.live() && p.at() == at
		if is {
			found = p
			break pieces
		}
	}
	return found, is
}

// told is what comes of the live piece that begins somewhere.
func told[A any](b book, at uint32, comes func(piece) (A, api.Errno)) (A, api.Errno) {
	var none, x A
	p, is := b.at(at)
	e := b.refusal(true, question{func() bool { return is }, api.ErrPiece})
	if e != api.OK {
		goto refused
	}
	x, e = comes(p)
	if e != api.OK {
		goto refused
	}
	return x, api.OK
refused:
	return none, e
}
