package slab

import (
	"pinfold/api"
	"pinfold/bits"
	"pinfold/meta"
	"pinfold/size"
	"pinfold/vmem"
)

// slot is one under way, that there is or not, in its memory; and, once it is looked at, what is known of it.
type slot struct {
	api.Spot
	api.Record
	memory *vmem.Memory
}

func slotOf(m *vmem.Memory, p api.Spot) slot { return slot{Spot: p, memory: m} }

// first is a class's first slot, which stands for the class: each has one.
func first(m *vmem.Memory, tenant, class int) slot {
	return slotOf(m, api.Spot{Slot: tenant, Class: class})
}

// there tells whether there is a memory. It is asked itself, as a zero one is none either: a reach of no bytes is refused by each, and by none as that.
func (s slot) there() bool {
	_, e := s.memory.Peek(0, 0)
	return e != api.ErrNil
}

// known tells whether there is such a tenant, and such a class.
func (s slot) known() bool {
	_, e := meta.At(s.Spot)
	return e != api.ErrArg
}

// placed tells whether a class that there is has such a slot.
func (s slot) placed() bool {
	_, e := meta.At(s.Spot)
	return e != api.ErrRange
}

// open tells whether the tenant's book is. What stands there for the slot does not count.
func (s slot) open() bool {
	_, e := meta.Get(s.memory, s.Spot)
	return e != api.ErrNone
}

// refusal is why nothing is done to the slot: what is asked of all of them, whether what is asked for may be, and what is asked behind that.
func (s slot) refusal(may bool, l ...question) api.Errno {
	return asked(append([]question{
		{s.there, api.ErrNil},
		{func() bool { return s.known() && may }, api.ErrArg},
		{s.placed, api.ErrRange},
		{s.open, api.ErrNone},
	}, l...)...)
}

// seen is the slot with what its record tells; false, if what stands there is no record.
func (s slot) seen() (slot, bool) {
	r, e := meta.Get(s.memory, s.Spot)
	s.Record = r
	return s, e == api.OK
}

// isFree tells how to ask which of the class's slots are free. Where one of them has no record no sheet is told of all: then each is asked by itself, as the others' records stand.
func (s slot) isFree() func(index int) bool {
	sheet, e := meta.States(s.memory, s.Slot, s.Class)
	if e == api.OK {
		return func(index int) bool {
			x, is := sheet.Get(index)
			return is && x == api.StateFree
		}
	}
	return func(index int) bool {
		s.Index = index
		x, is := s.seen()
		return is && x.State == api.StateFree
	}
}

// free marks those of the class's slots that are.
func (s slot) free() *bits.Marks {
	many, _ := size.Count(s.Class)
	marks, _ := bits.New(many)
	is := s.isFree()
	for index := range many {
		marks.Set(index, is(index))
	}
	return marks
}

// drawn is the index of the free slot of the class that a draw picks; false, if none is free.
func (s slot) drawn(draw uint32) (int, bool) {
	free := s.free()
	// Of none there is nothing to be taken modulo.
	many := max(free.Count(), 1)
	return free.Nth(int(draw%uint32(many)), true)
}

// at is the slot's address.
func (s slot) at() uint32 {
	at, _ := meta.At(s.Spot)
	return at
}
