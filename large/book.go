package large

import (
	"pinfold/api"
	"pinfold/meta"
	"pinfold/vmem"
	"pinfold/window"
)

// book is a tenant's, open or not, in its memory.
type book struct {
	memory *vmem.Memory
	tenant int
}

// there tells whether there is a memory. It is asked itself, as a zero one is none either: a reach of no bytes is refused by each, and by none as that.
func (b book) there() bool {
	_, e := b.memory.Peek(0, 0)
	return e != api.ErrNil
}

// known tells whether there is such a tenant.
func (b book) known() bool {
	_, e := window.Book(b.tenant)
	return e == api.OK
}

// open tells whether it is. What stands there does not count.
func (b book) open() bool {
	_, e := meta.GetGreat(b.memory, b.tenant, 0)
	return e != api.ErrNone
}

// refusal is why nothing is done by the book: what is asked of all calls, whether what is asked for may be, and what is asked behind that.
func (b book) refusal(may bool, l ...question) api.Errno {
	return asked(append([]question{
		{b.there, api.ErrNil},
		{func() bool { return b.known() && may }, api.ErrArg},
		{b.open, api.ErrNone},
	}, l...)...)
}

// write writes down what is known of a piece.
func (b book) write(p piece) api.Errno {
	return meta.PutGreat(b.memory, b.tenant, p.number, p.Great)
}
