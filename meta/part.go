package meta

import (
	"iter"

	"pinfold/api"
	"pinfold/word"
)

// part is one number of a record R: how many bytes it has, the greatest that it may be, and how it is told of a record and said of one. A record may hold any number of its kinds, so what is told of it may be below 0.
type part[R any] struct {
	width int
	most  int64
	tell  func(R) int64
	say   func(*R, int64)
}

// nought is a part of so many bytes that are always 0.
func nought[R any](width int) part[R] {
	return part[R]{width, 0, func(R) int64 { return 0 }, func(*R, int64) {}}
}

// twoBytes and fourBytes are the greatest numbers of as many.
const (
	twoBytes  = 1<<16 - 1
	fourBytes = 1<<32 - 1
)

// small are the parts of a slot's record, as they stand one behind the other.
func small() [4]part[api.Record] {
	type record = api.Record
	return [4]part[record]{
		{1, int64(api.StateGone), func(r record) int64 { return int64(r.State) }, func(r *record, n int64) { r.State = api.State(n) }},
		nought[record](1),
		{2, twoBytes, func(r record) int64 { return int64(r.Size) }, func(r *record, n int64) { r.Size = int(n) }},
		{4, fourBytes, func(r record) int64 { return int64(r.Nonce) }, func(r *record, n int64) { r.Nonce = uint32(n) }},
	}
}

// great are those of a great record.
func great() [6]part[api.Great] {
	type record = api.Great
	return [6]part[record]{
		{1, int64(api.StateGone), func(g record) int64 { return int64(g.State) }, func(g *record, n int64) { g.State = api.State(n) }},
		nought[record](1),
		{2, twoBytes, func(g record) int64 { return int64(g.Pages) }, func(g *record, n int64) { g.Pages = int(n) }},
		{4, api.MaxSize, func(g record) int64 { return int64(g.Size) }, func(g *record, n int64) { g.Size = int(n) }},
		{4, twoBytes, func(g record) int64 { return int64(g.First) }, func(g *record, n int64) { g.First = int(n) }},
		nought[record](4),
	}
}

// placed goes over parts, each with the place in its record at which it begins.
func placed[R any](l ...part[R]) iter.Seq2[int, part[R]] {
	return func(yield func(int, part[R]) bool) {
		from := 0
		for _, p := range l {
			if !yield(from, p) {
				return
			}
			from += p.width
		}
	}
}

// fits tells whether each number of a record may be.
func fits[R any](r R, l ...part[R]) bool {
	all := true
parts:
	for _, p := range placed(l...) {
		n := p.tell(r)
		all = n >= 0 && n <= p.most
		if !all {
			break parts
		}
	}
	return all
}

// read is the record of which it is told what number stands where; false, if one of them may not be: then there is no record.
func read[R any](number func(from, width int) int64, l ...part[R]) (R, bool) {
	var r, none R
	for from, p := range placed(l...) {
		n := number(from, p.width)
		if n > p.most {
			return none, false
		}
		p.say(&r, n)
	}
	return r, true
}

// write says of each number of a record how it stands, one behind the other.
func write[R any](r R, lay func(n int64, width int), l ...part[R]) {
	for _, p := range placed(l...) {
		lay(p.tell(r), p.width)
	}
}

// unpacked is the record whose bytes these are, if they are one's.
func unpacked[R any](b []byte, l ...part[R]) (R, bool) {
	return read(func(from, width int) int64 {
		n, _ := word.Get(b[from : from+width])
		return int64(n)
	}, l...)
}

// packed are the bytes of a record that may be.
func packed[R any](r R, l ...part[R]) []byte {
	var all [][]byte
	write(r, func(n int64, width int) {
		b, _ := word.Put(uint64(n), width)
		all = append(all, b)
	}, l...)
	return word.Joined(all...)
}
