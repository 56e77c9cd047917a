package word

import "iter"

// place tells where the first thing is that is such; -1, if there is none.
func place[T any](l []T, is func(T) bool) int {
	for i, x := range l {
		if is(x) {
			return i
		}
	}
	return -1
}

// differ tells the first place at which one has another thing than the other, or none; -1, if there is no such place.
func differ[T comparable](a, b []T) int {
	both := min(len(a), len(b))
	for i := range both {
		if a[i] != b[i] {
			return i
		}
	}
	if len(a) != len(b) {
		return both
	}
	return -1
}

// cuts goes over where parts begin, and where they end.
func cuts(many, size int) iter.Seq2[int, int] {
	return func(yield func(int, int) bool) {
		if size < 1 {
			return
		}
		for from := 0; from < many; {
			// Bound by what is left, a step needs no look at how huge a size is.
			until := from + min(size, many-from)
			if !yield(from, until) {
				return
			}
			from = until
		}
	}
}
