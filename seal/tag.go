package seal

import "pinfold/api"

const (
	// greatest is the greatest size that a tag says.
	greatest = 1<<16 - 1
	// sizeAt and classAt are the bits from which on both stand in a tag's word.
	sizeAt  = 32
	classAt = 48
)

// tag is a tag under way, that may be none.
type tag struct{ api.Tag }

// tagOf is the tag that has the word; one that may not be, if none has.
func tagOf(w uint64) tag {
	return tag{api.Tag{Class: int(w >> classAt), Size: int(w >> sizeAt & greatest), Nonce: uint32(w)}}
}

// known tells whether there may be such a tag.
func (t tag) known() bool {
	return t.Class >= 0 && t.Class < api.Classes && t.Size >= 0 && t.Size <= greatest
}

// word is that of a tag that may be.
func (t tag) word() uint64 {
	return uint64(t.Nonce) | uint64(t.Size)<<sizeAt | uint64(t.Class)<<classAt
}

// told is what is made of a tag, if it may be.
func told[T any](t api.Tag, made func(tag) T) (T, api.Errno) {
	x := tag{t}
	var none T
	if !x.known() {
		goto refused
	}
	return made(x), api.OK
refused:
	return none, api.ErrArg
}
