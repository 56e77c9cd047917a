package lock

import "iter"

// hasAll tells whether there is each lock that somebody waits for.
func (r ranks) hasAll(waits ...int) bool {
	for _, rank := range waits {
		if rank != none && !r.has(rank) {
			return false
		}
	}
	return true
}

// openAll tells whether each thread may try what it waits for.
func (r ranks) openAll(waits ...int) bool {
	for who, rank := range waits {
		if rank != none && !r.open(who, rank) {
			return false
		}
	}
	return true
}

// awaited tells who has the lock that a thread waits for, and whether it waits. Who waits for none, or for one that is free by now, does not.
func (r ranks) awaited(thread int, waits ...int) (int, bool) {
	if thread >= len(waits) || waits[thread] == none {
		return 0, false
	}
	return r.holder(waits[thread])
}

// behind goes over a thread, the one that it waits for, and so on, as long as who is told waits.
func (r ranks) behind(thread int, waits ...int) iter.Seq[int] {
	return func(yield func(int) bool) {
		for who, is := thread, true; is && yield(who); {
			who, is = r.awaited(who, waits...)
		}
	}
}

// chain is those threads, each once. Where each one may try what it waits for, ranks rise along it, and nobody comes twice; who was named is kept, so that it ends whatever the waits.
func (r ranks) chain(thread int, waits ...int) []int {
	var l []int
	named := map[int]struct{}{}
threads:
	for who := range r.behind(thread, waits...) {
		if _, twice := named[who]; twice {
			break threads
		}
		named[who] = struct{}{}
		l = append(l, who)
	}
	return l
}
