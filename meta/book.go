package meta

import (
	"pinfold/api"
	"pinfold/vmem"
	"pinfold/window"
)

// book is a tenant's, open or not, in its memory.
type book struct {
	*vmem.Memory
	tenant int
}

// there tells whether there is a memory. It is asked itself, as a zero one is none either: a reach of no bytes is refused by each, and by none as that.
func (b book) there() bool {
	_, e := b.Peek(0, 0)
	return e != api.ErrNil
}

// owned tells whether there is such a tenant.
func (b book) owned() bool {
	_, e := window.Book(b.tenant)
	return e == api.OK
}

// pays tells whether there is such a payer. Who may be one is the memory's to tell; of a page that there is not nothing is mapped.
func (b book) pays(payer int) bool {
	return b.Map(-1, api.Nobody, payer, api.MayNone) != api.ErrArg
}

// pages are those of the book of a tenant that there is.
func (b book) pages() [api.BookPages]int {
	first, _ := window.Book(b.tenant)
	var l [api.BookPages]int
	for at := range l {
		l[at] = first + at
	}
	return l
}

// all tells whether each page of the book is such.
func (b book) all(is func(api.Entry, bool) bool) bool {
	for _, page := range b.pages() {
		if !is(b.Get(page)) {
			return false
		}
	}
	return true
}

// open tells whether the book is.
func (b book) open() bool {
	return b.all(func(x api.Entry, mapped bool) bool { return mapped && x.Owner == api.Nobody })
}

// bare tells whether no page of the book is mapped, which is more than that it is not open.
func (b book) bare() bool {
	return b.all(func(_ api.Entry, mapped bool) bool { return !mapped })
}
