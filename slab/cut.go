package slab

import (
	"pinfold/api"
	"pinfold/seal"
	"pinfold/size"
	"pinfold/word"
)

// cut is a slot's bytes, cut into those ahead of its payload, the payload, and those behind it.
type cut [3][]byte

const (
	ahead = iota
	payload
	behind
)

// widths are how many bytes the parts of the slot have.
func (s slot) widths() [3]int {
	n, _ := size.Payload(s.Class)
	return [3]int{api.HeadBytes, n, api.TailBytes}
}

// places are where its parts begin.
func (s slot) places() [3]uint32 {
	at := s.at()
	return [3]uint32{at - api.HeadBytes, at, at + uint32(s.widths()[payload])}
}

// bytes are what stands in it. They are read and written by the tenant's own reach: it has them all, as the class is ready, and none of another one's.
func (s slot) bytes() cut {
	var l cut
	places := s.places()
	for part, many := range s.widths() {
		l[part], _ = s.memory.Load(s.Slot, places[part], many)
	}
	return l
}

// lay lays parts there; those that are none stay as they are.
func (s slot) lay(l cut) {
	places := s.places()
	for part, b := range l {
		if b != nil {
			s.memory.Store(s.Slot, places[part], b)
		}
	}
}

// noughts are as many 0 as it has bytes.
func (s slot) noughts() cut {
	var l cut
	for part, many := range s.widths() {
		l[part] = make([]byte, many)
	}
	return l
}

// clean tells whether all its bytes are 0.
func (s slot) clean() bool {
	b := s.bytes()
	return word.Zero(word.Joined(b[:]...))
}

// tag is what its head and tail say, if that is known of it.
func (s slot) tag(r api.Record) api.Tag {
	return api.Tag{Class: s.Class, Size: r.Size, Nonce: r.Nonce}
}

// sealed are that head and that tail, by a key, without a payload.
func (s slot) sealed(key uint64, r api.Record) cut {
	head, _ := seal.Head(key, s.at(), s.tag(r))
	tail, _ := seal.Tail(key, s.at(), s.tag(r))
	return cut{ahead: head, behind: tail}
}

// spoilt is what of both is not what is known of it.
func (s slot) spoilt(key uint64) api.Spoilt {
	b := s.bytes()
	x, _ := seal.Look(key, s.at(), s.tag(s.Record), b[ahead], b[behind])
	return x
}
