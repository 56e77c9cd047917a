package vmem

import (
	"iter"

	"pinfold/api"
)

// reach is so many bytes from an address on.
type reach struct {
	at   uint32
	many int
}

// proper tells whether a reach may have so many bytes.
func (r reach) proper() bool { return r.many >= 1 && r.many <= api.Addresses }

// within tells whether there is each address of a proper reach. Its first one is looked at as it was handed in, as an int need not hold it; what is left behind that is told by a difference, as a sum might go round.
func (r reach) within() bool {
	return r.at < api.Addresses && r.many <= api.Addresses-int(r.at)
}

// part is what of a reach lies in one page: which page, the place of its first byte there, and how many bytes.
type part [3]int

// Where each number of a part stands.
const (
	partPage = iota
	partPlace
	partMany
)

// parts goes over the parts of a reach that is within the addresses, rising.
func (r reach) parts() iter.Seq[part] {
	return func(yield func(part) bool) {
		for at, left := int(r.at), r.many; left > 0; {
			p := part{partPage: at / api.PageSize, partPlace: at % api.PageSize}
			p[partMany] = min(left, api.PageSize-p[partPlace])
			if !yield(p) {
				return
			}
			at, left = at+p[partMany], left-p[partMany]
		}
	}
}

// seen tells whether each page of a reach is such. It ends at the first one that is not: a reach may be greater by far than what is mapped.
func (r reach) seen(is func(page int) bool) bool {
	all := true
parts:
	for p := range r.parts() {
		all = is(p[partPage])
		if !all {
			break parts
		}
	}
	return all
}

// partwise does something part by part: each time with what came of it the time before.
func partwise[T any](r reach, start T, does func(T, part) T) T {
	for p := range r.parts() {
		start = does(start, p)
	}
	return start
}
