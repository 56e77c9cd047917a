package slab

import (
	"pinfold/api"
	"pinfold/window"
)

// pages are those of the region of the slot's class.
func (s slot) pages() [api.RegionPages]int {
	from, _ := window.Region(s.Slot, s.Class)
	var l [api.RegionPages]int
	for at := range l {
		l[at] = from + at
	}
	return l
}

// such tells how many of the region's pages are.
func (s slot) such(is func(x api.Entry, mapped bool) bool) int {
	n := 0
	for _, page := range s.pages() {
		if is(s.memory.Get(page)) {
			n++
		}
	}
	return n
}

// right tells how many pages are the tenant's, to be written. Who pays for them is not asked, as no memory tells it.
func (s slot) right() int {
	return s.such(func(x api.Entry, mapped bool) bool {
		return mapped && x.Owner == s.Slot && x.May == api.MayWrite
	})
}

// bare tells how many pages are not mapped.
func (s slot) bare() int {
	return s.such(func(_ api.Entry, mapped bool) bool { return !mapped })
}

// ready tells whether the class is.
func (s slot) ready() bool { return s.right() == api.RegionPages }

// unready tells whether it is not.
func (s slot) unready() bool { return !s.ready() }

// paid tells whether the tenant has frames enough left for the pages that are not mapped.
func (s slot) paid() bool { return s.memory.Left(s.Slot) >= s.bare() }

// clear tells whether no page is mapped otherwise than it must be: such a one is not taken from whoever has it.
func (s slot) clear() bool { return s.right()+s.bare() == api.RegionPages }

// mapPages maps those pages that are not mapped.
func (s slot) mapPages() {
	for _, page := range s.pages() {
		if _, is := s.memory.Get(page); !is {
			s.memory.Map(page, s.Slot, s.Slot, api.MayWrite)
		}
	}
}
