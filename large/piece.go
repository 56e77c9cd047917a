package large

import (
	"pinfold/api"
	"pinfold/round"
	"pinfold/window"
)

// piece is a great piece of a tenant's, with its number.
type piece struct {
	api.Great
	number int
}

// ends are those of its pages.
func (p piece) ends() ends { return ends{p.First, p.First + p.Pages} }

// at is where it begins.
func (p piece) at() uint32 {
	at, _ := window.Address(p.First, 0)
	return at
}

// live tells whether it is.
func (p piece) live() bool { return p.State == api.StateLive }

// holds tells whether it may have that size.
func (p piece) holds(size int) bool {
	pages, _ := round.Many(uint64(size), api.PageSize)
	return size >= 1 && pages <= uint64(p.Pages)
}

// proper tells whether such a piece may be asked for.
func (p piece) proper() bool {
	return p.Pages >= 1 && p.Pages <= api.MostPages && p.holds(p.Size)
}
