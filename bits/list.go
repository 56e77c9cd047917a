package bits

import (
	"iter"
	"math/bits"
)

// folded is what all things come to, one by one.
func folded[T, A any](from A, with func(A, T) A, l ...T) A {
	for _, x := range l {
		from = with(from, x)
	}
	return from
}

// turned is what becomes of each thing, by its place.
func turned[A, B any](become func(int, A) B, l ...A) []B {
	all := make([]B, 0, len(l))
	for i, x := range l {
		all = append(all, become(i, x))
	}
	return all
}

// first tells the first thing that is such, and whether there is one.
func first[T any](all iter.Seq[T], is func(T) bool) (T, bool) {
	for x := range all {
		if is(x) {
			return x, true
		}
	}
	var none T
	return none, false
}

// ones tells how many bits stand in words.
func ones(words ...uint64) int {
	return folded(0, func(n int, w uint64) int { return n + bits.OnesCount64(w) }, words...)
}

// places goes over those whose bits stand in words, rising.
func places(words ...uint64) iter.Seq[int] {
	return func(yield func(int) bool) {
		for i, w := range words {
			for ; w != 0; w &= w - 1 {
				if !yield(place{i, bits.TrailingZeros64(w)}.at()) {
					return
				}
			}
		}
	}
}
