package slab

import (
	"iter"
	"slices"

	"pinfold/api"
	"pinfold/meta"
)

// deed is what is done to a slot, by what it was. What it has no function for is not done.
type deed struct {
	// fits tells whether what is asked for may be, in a payload of so many bytes.
	fits func(room int) bool
	// such tells whether it is done to slots that were that.
	such func(was api.State) bool
	// lays tells the bytes that stand there then.
	lays func(s slot) cut
	// turns tells what is known of the slot then.
	turns func(s slot) api.Record
}

// looking is done to slots that were this, and leaves them so.
func looking(was api.State) deed {
	return deed{such: func(x api.State) bool { return x == was }}
}

// turning makes slots that were this that.
func turning(was, to api.State) deed {
	d := looking(was)
	d.turns = func(slot) api.Record { return api.Record{State: to} }
	return d
}

// arming makes kept ones live, with a head and a tail.
func arming(key uint64, size int, nonce uint32) deed {
	d := looking(api.StateKept)
	r := api.Record{State: api.StateLive, Size: size, Nonce: nonce}
	d.fits = func(room int) bool { return size >= 1 && size <= room }
	d.lays = func(s slot) cut { return s.sealed(key, r) }
	d.turns = func(slot) api.Record { return r }
	return d
}

// wiping makes live ones held, and leaves nothing in them.
func wiping() deed {
	d := turning(api.StateLive, api.StateHeld)
	d.lays = slot.noughts
	return d
}

// leaving makes held ones free; those that somebody wrote to are given up.
func leaving() deed {
	d := looking(api.StateHeld)
	d.turns = func(s slot) api.Record {
		if s.clean() {
			return api.Record{State: api.StateFree}
		}
		return api.Record{State: api.StateGone}
	}
	return d
}

// may tells whether what is asked for may be in that slot.
func (d deed) may(s slot) bool { return d.fits == nil || d.fits(s.widths()[payload]) }

// see looks at the slot, and refuses it if it was not such. One of which no record tells what it was was not such either.
func (d deed) see(s *slot) api.Errno {
	x, is := s.seen()
	if !is || !d.such(x.State) {
		return api.ErrMove
	}
	*s = x
	return api.OK
}

// lay lays the bytes that stand there then.
func (d deed) lay(s *slot) api.Errno {
	s.lay(d.lays(*s))
	return api.OK
}

// turn writes down what is known of the slot then.
func (d deed) turn(s *slot) api.Errno {
	s.Record = d.turns(*s)
	return meta.Put(s.memory, s.Spot, s.Record)
}

// steps are what is done one behind the other. The record comes last: until then it tells what the slot was.
func (d deed) steps() iter.Seq[func(*slot) api.Errno] {
	l := []func(*slot) api.Errno{d.see}
	if d.lays != nil {
		l = append(l, d.lay)
	}
	if d.turns != nil {
		l = append(l, d.turn)
	}
	return slices.Values(l)
}

// told is what comes of a slot to which something is done.
func told[A any](s slot, d deed, comes func(slot) A) (A, api.Errno) {
	var none A
	e := s.refusal(d.may(s), question{s.ready, api.ErrReady})
	if e != api.OK {
		goto refused
	}
steps:
	for step := range d.steps() {
		e = step(&s)
		if e != api.OK {
			break steps
		}
	}
	if e != api.OK {
		goto refused
	}
	return comes(s), api.OK
refused:
	return none, e
}

// done does something to a slot of which nothing but that is told.
func done(s slot, d deed) api.Errno {
	_, e := told(s, d, func(slot) api.Errno { return api.OK })
	return e
}
