package vmem

import (
	"pinfold/api"
	"pinfold/page"
)

// owners is how many owners and payers there may be, beside nobody.
const owners = 64

// owns tells whether a page may be an owner's: nobody's is one too.
func owns(owner int) bool { return owner >= api.Nobody && owner < owners }

// pays tells whether there is such a payer.
func pays(payer int) bool { return payer >= 0 && payer < owners }

// allowed tells what may be done in a page.
func allowed(may api.May) bool { return may >= api.MayNone && may <= api.MayWrite }

// known tells whether there is such a page.
func known(page int) bool { return page >= 0 && page < api.MaxPages }

// table is which pages are whose. It does not hand on the calls of layer 8: by those, pages would come to frames that nobody took.
type table struct {
	pages *page.Table
}

// mapped tells whether a page is, which is all that nobody's hand needs.
func (t table) mapped(page int) bool {
	_, is := t.pages.Get(page)
	return is
}

// grants tells whether a page is an owner's who may do that there. Nobody's pages are no owner's, not even his who names himself nobody.
func (t table) grants(page, owner int, may api.May) bool {
	x, is := t.pages.Get(page)
	return is && x.Owner != api.Nobody && x.Owner == owner && x.May >= may
}

// framed is the frame of a page that is mapped.
func (t table) framed(page int) int {
	x, _ := t.pages.Get(page)
	return x.Frame
}
