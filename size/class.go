package size

import (
	"iter"

	"pinfold/api"
)

// region is how many bytes a class's region has.
const region = api.RegionPages * api.PageSize

// payloads are the classes', by their numbers.
var payloads = [api.Classes]int{16, 32, 48, 64, 96, 128, 192, 256}

// number is a class's.
type number int

// known tells whether there is a class of that number.
func (n number) known() bool { return n >= 0 && n < api.Classes }

// kind is a class under way.
type kind struct {
	number
	payload int
}

func kindOf(class int) kind {
	k := kind{number: number(class)}
	if k.known() {
		k.payload = payloads[class]
	}
	return k
}

func (k kind) slot() int { return api.HeadBytes + k.payload + api.TailBytes }

// count leaves out a slot that would lie in the region in part only.
func (k kind) count() int { return region / k.slot() }

// kinds goes over the classes, rising.
func kinds() iter.Seq[kind] {
	return func(yield func(kind) bool) {
		for class := range payloads {
			if !yield(kindOf(class)) {
				return
			}
		}
	}
}

// told is what is asked of a class, if there is one of that number.
func told(class int, asked func(kind) int) (int, api.Errno) {
	k := kindOf(class)
	if !k.known() {
		goto refused
	}
	return asked(k), api.OK
refused:
	return 0, api.ErrArg
}

// first tells the first thing that is such, and whether there is one.
func first[T any](all iter.Seq[T], is func(T) bool) (T, bool) {
	for x := range all {
		if is(x) {
			return x, true
		}
	}
	var none T
	return none, false
}

// least tells the least class that holds a size. What is below 0 is no size, though each payload is above it.
func least(size int) (kind, bool) {
	return first(kinds(), func(k kind) bool { return size >= 0 && k.payload >= size })
}
