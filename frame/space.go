package frame

import "pinfold/api"

// space is a frame's bytes.
type space [api.PageSize]byte

// holds tells whether a frame has so many bytes from a place on. The place behind the last byte is one, of no bytes.
func holds(at, many int) bool {
	return at >= 0 && at <= api.PageSize && many >= 0 && many <= api.PageSize-at
}
