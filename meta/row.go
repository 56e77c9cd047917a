package meta

import (
	"pinfold/api"
	"pinfold/size"
	"pinfold/window"
)

// How many bytes records have, and at which of a book's pages they begin.
const (
	smallBytes = 8
	smallPages = 3
	greatBytes = 16
	greatPage  = smallPages * api.Classes
)

// row is so many things of one width, one behind the other, from an address on.
type row struct {
	from  uint32
	width int
	many  int
}

// has tells whether there is such a thing in it.
func (r row) has(index int) bool { return index >= 0 && index < r.many }

// at is where a thing of it begins.
func (r row) at(index int) uint32 { return r.from + uint32(index*r.width) }

// index tells which thing begins at an address, if one does. Of one ahead of the row the difference goes round, behind all that there is.
func (r row) index(at uint32) (int, bool) {
	ahead := int(at - r.from)
	return ahead / r.width, ahead%r.width == 0 && r.has(ahead/r.width)
}

// payloads are those of a class's slots: no row, where there is no such slot or class.
func payloads(tenant, class int) (row, bool) {
	page, e := window.Region(tenant, class)
	if e != api.OK {
		return row{}, false
	}
	from, _ := window.Address(page, api.HeadBytes)
	width, _ := size.Slot(class)
	many, _ := size.Count(class)
	return row{from, width, many}, true
}

// records are those of a class's slots, likewise.
func records(tenant, class int) (row, bool) {
	page, e := window.Book(tenant)
	many, none := size.Count(class)
	if e != api.OK || none != api.OK {
		return row{}, false
	}
	from, _ := window.Address(page+smallPages*class, 0)
	return row{from, smallBytes, many}, true
}

// greats are a tenant's great records, likewise.
func greats(tenant int) (row, bool) {
	page, e := window.Book(tenant)
	if e != api.OK {
		return row{}, false
	}
	from, _ := window.Address(page+greatPage, 0)
	return row{from, greatBytes, api.MaxGreat}, true
}
