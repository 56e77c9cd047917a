package large

import (
	"iter"

	"pinfold/api"
	"pinfold/round"
)

// ends are the first page of a run and the one behind its last.
type ends [2]int

const (
	first = iota
	behind
)

// pages goes over those of the run.
func (x ends) pages() iter.Seq[uint64] {
	return round.Steps(uint64(x[first]), uint64(x[behind]), 1)
}

// bare tells whether no page of a piece is mapped: such a one is not taken from whoever has it.
func (b book) bare(p piece) bool {
	all := true
pages:
	for page := range p.ends().pages() {
		_, is := b.memory.Get(int(page))
		all = !is
		if !all {
			break pages
		}
	}
	return all
}

// mapPages maps a piece's pages, that are bare.
func (b book) mapPages(p piece) {
	for page := range p.ends().pages() {
		b.memory.Map(int(page), b.tenant, b.tenant, api.MayWrite)
	}
}

// unmapPages unmaps those of them that are mapped.
func (b book) unmapPages(p piece) {
	for page := range p.ends().pages() {
		b.memory.Unmap(int(page))
	}
}
