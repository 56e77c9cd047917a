// Package word is layer 1: see shared/doc/01-word.md.
package word

import (
	"bytes"
	"iter"

	"pinfold/api"
)

// Put tells a number's bytes.
func Put(n uint64, width int) ([]byte, api.Errno) {
	x := numberOf(n, width)
	e := api.ErrArg
	if !x.known() {
		goto refused
	}
	e = api.ErrRange
	if !x.fits() {
		goto refused
	}
	return x.bytes(), api.OK
refused:
	return nil, e
}

// Get tells the number of bytes.
func Get(b []byte) (uint64, api.Errno) {
	x := numberOf(0, len(b))
	if !x.known() {
		goto refused
	}
	for i, y := range b {
		x.value |= uint64(y) << (8 * i)
	}
	return x.value, api.OK
refused:
	return 0, api.ErrArg
}

// Zero tells whether each byte is 0.
func Zero(b []byte) bool { return First(b) < 0 }

// First tells the place of the first byte that is not 0.
func First(b []byte) int {
	return place(b, func(x byte) bool { return x != 0 })
}

// Differ tells the first place at which two differ.
func Differ(a, b []byte) int { return differ(a, b) }

// Parts goes over parts.
func Parts(b []byte, size int) iter.Seq2[int, []byte] {
	// The iterator outlives this call, and what is handed in is not kept.
	own := bytes.Clone(b)
	return func(yield func(int, []byte) bool) {
	parts:
		for from, until := range cuts(len(own), size) {
			// Whoever writes into a part must not be told it when going over them again.
			if !yield(from, bytes.Clone(own[from:until])) {
				break parts
			}
		}
	}
}

// Joined is all, one behind the other.
func Joined(l ...[]byte) []byte {
	var all []byte
	for _, b := range l {
		all = append(all, b...)
	}
	return all
}
