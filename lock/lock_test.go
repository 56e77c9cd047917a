package lock_test

import (
	"iter"
	"math"
	"math/rand"
	"slices"
	"testing"

	"pinfold/api"
	"pinfold/lock"
)

const (
	most = 64
	// free is what facts say of a lock that is nobody's.
	free = -1
)

// noLengths are numbers of locks that may not be: those beside, those of cells that there may be, those that a narrower kind would cut to one that may.
var noLengths = []int{65, 66, 127, 128, 255, 256, 257, 1023, 1024, 1025, 65536, 65540, 1 << 31, 1 << 32, 1<<32 + 5, 1 << 62, math.MaxInt32, math.MaxInt - 1, math.MaxInt, -1, -2, -5, -63, -64, -65, -192, -256, -65536, -1 << 31, -1 << 32, 5 - 1<<32, math.MinInt32, math.MinInt, math.MinInt + 1, math.MinInt + 5}

// noThreads are threads that there are not: those beside both ends, those that a narrower kind would cut to one that there is.
var noThreads = []int{4, 5, 6, 7, 8, 63, 64, 255, 256, 257, 65536, 65538, 1 << 31, 1<<32 - 1, 1 << 32, 1<<32 + 1, 1 << 62, math.MaxInt - 1, math.MaxInt, -1, -2, -3, -4, -5, -254, -256, -65536, -1 << 31, 1 - 1<<32, -1 << 32, math.MinInt, math.MinInt + 1, math.MinInt + 2}

// outside are locks that there are not, of many.
func outside(many int) []int {
	return []int{many, many + 1, many + 63, many + 64, many + 256, many + 65536, 64, 65, 1024, 1 << 31, 1 << 32, 1<<32 + many/2, 1<<62 + 1, math.MaxInt - 1, math.MaxInt, -1, -2, -63, -64, -256, -1024, -1 << 32, many/2 - 1<<32, math.MinInt, math.MinInt + 1, math.MinInt + many/2}
}

// facts are who has which lock, by their ranks.
type facts []int

func none(many int) facts { return slices.Repeat(facts{free}, many) }

// held are the locks that a thread has, rising.
func (f facts) held(thread int) []int {
	var l []int
	for rank, who := range f {
		if who == thread {
			l = append(l, rank)
		}
	}
	return l
}

// error is that of a thread and a lock.
func (f facts) error(thread, rank int) api.Errno {
	switch {
	case thread < 0 || thread > 3:
		return api.ErrArg
	case rank < 0 || rank >= len(f):
		return api.ErrRange
	}
	return api.OK
}

// try tells what Try answers, and takes the lock where it is taken.
func (f facts) try(thread, rank int) (bool, api.Errno) {
	if e := f.error(thread, rank); e != api.OK {
		return false, e
	}
	if l := f.held(thread); len(l) > 0 && slices.Max(l) >= rank {
		return false, api.ErrOrder
	}
	if f[rank] != free {
		return false, api.OK
	}
	f[rank] = thread
	return true, api.OK
}

// free tells what Free answers, and frees the lock where it is freed.
func (f facts) free(thread, rank int) api.Errno {
	if e := f.error(thread, rank); e != api.OK {
		return e
	}
	if f[rank] != thread {
		return api.ErrOwner
	}
	f[rank] = free
	return api.OK
}

// drop tells what Drop answers, and frees what is freed.
func (f facts) drop(thread int) (int, api.Errno) {
	if thread < 0 || thread > 3 {
		return 0, api.ErrArg
	}
	l := f.held(thread)
	for _, rank := range l {
		f[rank] = free
	}
	return len(l), api.OK
}

// chain tells what Chain answers.
func (f facts) chain(thread int, waits []int) ([]int, api.Errno) {
	if thread < 0 || thread > 3 || len(waits) > 4 {
		return nil, api.ErrArg
	}
	for _, rank := range waits {
		if rank < -1 || rank >= len(f) {
			return nil, api.ErrRange
		}
	}
	for who, rank := range waits {
		if l := f.held(who); rank >= 0 && len(l) > 0 && slices.Max(l) >= rank {
			return nil, api.ErrOrder
		}
	}
	l := []int{thread}
	for thread < len(waits) && waits[thread] >= 0 && f[waits[thread]] != free {
		thread = f[waits[thread]]
		l = append(l, thread)
	}
	return l, api.OK
}

// owned is a lock that is a thread's.
type owned struct{ rank, thread int }

func told(all iter.Seq2[int, int]) []owned {
	var l []owned
	for rank, thread := range all {
		l = append(l, owned{rank, thread})
	}
	return l
}

// all is what All tells of facts.
func (f facts) all() []owned {
	var l []owned
	for rank, who := range f {
		if who != free {
			l = append(l, owned{rank, who})
		}
	}
	return l
}

// allFacts goes over all that so many locks may be.
func allFacts(many int) iter.Seq[facts] {
	return func(yield func(facts) bool) {
		f := none(many)
		for {
			if !yield(slices.Clone(f)) {
				return
			}
			at := 0
			for at < many && f[at] == 3 {
				f[at] = free
				at++
			}
			if at == many {
				return
			}
			f[at]++
		}
	}
}

func bare(t *testing.T, many int) *lock.Locks {
	t.Helper()
	l, e := lock.New(many)
	if l == nil || e != api.OK {
		t.Fatalf("New(%d): %v %v", many, l, e)
	}
	return l
}

// made are locks of which those facts hold. They are taken rising, so that each thread may try each.
func made(t *testing.T, f facts) *lock.Locks {
	t.Helper()
	l := bare(t, len(f))
	for rank, who := range f {
		if who != free {
			wantTry(t, l, who, rank, true, api.OK)
		}
	}
	return l
}

func wantTry(t *testing.T, l *lock.Locks, thread, rank int, want bool, e api.Errno) {
	t.Helper()
	if is, f := l.Try(thread, rank); is != want || f != e {
		t.Fatalf("Try(%d, %d): %v %v, want %v %v", thread, rank, is, f, want, e)
	}
}

func wantFree(t *testing.T, l *lock.Locks, thread, rank int, e api.Errno) {
	t.Helper()
	if f := l.Free(thread, rank); f != e {
		t.Fatalf("Free(%d, %d): %v, want %v", thread, rank, f, e)
	}
}

func wantDrop(t *testing.T, l *lock.Locks, thread, want int, e api.Errno) {
	t.Helper()
	if n, f := l.Drop(thread); n != want || f != e {
		t.Fatalf("Drop(%d): %d %v, want %d %v", thread, n, f, want, e)
	}
}

func wantHolder(t *testing.T, l *lock.Locks, rank, want int, is bool) {
	t.Helper()
	if who, some := l.Holder(rank); who != want || some != is {
		t.Fatalf("Holder(%d): %d %v, want %d %v", rank, who, some, want, is)
	}
}

func wantHeld(t *testing.T, l *lock.Locks, thread int, want ...int) {
	t.Helper()
	if got := l.Held(thread); !slices.Equal(got, want) {
		t.Fatalf("Held(%d): %v, want %v", thread, got, want)
	}
}

func wantChain(t *testing.T, l *lock.Locks, thread int, waits, want []int, e api.Errno) {
	t.Helper()
	if got, f := l.Chain(thread, waits...); !slices.Equal(got, want) || f != e {
		t.Fatalf("Chain(%d, %v) of %v: %v %v, want %v %v", thread, waits, told(l.All()), got, f, want, e)
	}
}

// check holds all that locks tell against facts.
func check(t *testing.T, l *lock.Locks, f facts) {
	t.Helper()
	for rank, who := range f {
		if who == free {
			wantHolder(t, l, rank, 0, false)
		} else {
			wantHolder(t, l, rank, who, true)
		}
	}
	wantHolder(t, l, len(f), 0, false)
	wantHolder(t, l, -1, 0, false)
	for thread := range 4 {
		wantHeld(t, l, thread, f.held(thread)...)
	}
	wantHeld(t, l, -1)
	wantHeld(t, l, 4)
	if got := told(l.All()); !slices.Equal(got, f.all()) {
		t.Fatalf("All: %v, want %v", got, f.all())
	}
}

// P12.1, P12.2, the examples
func TestExamples(t *testing.T) {
	l := bare(t, 3)
	wantTry(t, l, 0, 1, true, api.OK)
	wantTry(t, l, 1, 1, false, api.OK)
	wantTry(t, l, 0, 0, false, api.ErrOrder)
	wantTry(t, l, 0, 2, true, api.OK)
	wantHeld(t, l, 0, 1, 2)
	wantChain(t, l, 1, []int{-1, 1}, []int{1, 0}, api.OK)
	wantFree(t, l, 1, 1, api.ErrOwner)
	wantDrop(t, l, 0, 2, api.OK)
	wantTry(t, l, 1, 1, true, api.OK)
	check(t, l, facts{free, 1, free})
}

// P12.1: all are free
func TestNew(t *testing.T) {
	for many := range most + 1 {
		l := bare(t, many)
		check(t, l, none(many))
		for rank := range many {
			wantTry(t, l, rank%4, rank, true, api.OK)
		}
		for _, rank := range outside(many) {
			wantTry(t, l, 0, rank, false, api.ErrRange)
		}
	}
	for _, many := range noLengths {
		if l, e := lock.New(many); l != nil || e != api.ErrArg {
			t.Errorf("New(%d): %v %v, want ErrArg", many, l, e)
		}
	}
}

// P12.1
func TestNewOnesAreApart(t *testing.T) {
	a, b := bare(t, 3), bare(t, 3)
	wantTry(t, a, 0, 1, true, api.OK)
	check(t, a, facts{free, 0, free})
	check(t, b, none(3))
	wantTry(t, b, 1, 1, true, api.OK)
	wantDrop(t, a, 0, 1, api.OK)
	check(t, a, none(3))
	check(t, b, facts{free, 1, free})
}

// P12.1, P12.2: of all that three locks may be, each call by each thread, those that there are not too
func TestEachCallOfAllThatLocksMayBe(t *testing.T) {
	for f := range allFacts(3) {
		for thread := -2; thread < 7; thread++ {
			for rank := -2; rank < 6; rank++ {
				was := slices.Clone(f)
				is, e := was.try(thread, rank)
				l := made(t, f)
				wantTry(t, l, thread, rank, is, e)
				check(t, l, was)

				was = slices.Clone(f)
				e = was.free(thread, rank)
				l = made(t, f)
				wantFree(t, l, thread, rank, e)
				check(t, l, was)
			}
			was := slices.Clone(f)
			n, e := was.drop(thread)
			l := made(t, f)
			wantDrop(t, l, thread, n, e)
			check(t, l, was)
			wantDrop(t, l, thread, 0, e)
			check(t, l, was)
		}
	}
}

// P12.1: none of that rank, nor of a greater one, of all ranks that there may be
func TestOrder(t *testing.T) {
	for has := range most {
		l := bare(t, most)
		f := none(most)
		wantTry(t, l, 2, has, true, api.OK)
		f[has] = 2
		for rank := range has + 1 {
			wantTry(t, l, 2, rank, false, api.ErrOrder)
		}
		check(t, l, f)
		// Others may, each what is free.
		for rank := range most {
			wantTry(t, l, 3, rank, rank != has, api.OK)
		}
		for rank := has + 1; rank < most; rank++ {
			f[rank] = 3
			wantTry(t, l, 2, rank, false, api.OK)
		}
		for rank := range has {
			f[rank] = 3
			wantTry(t, l, 2, rank, false, api.ErrOrder)
		}
		check(t, l, f)
	}
}

// P12.1: what counts is what a thread has now, not what it had
func TestOrderOfWhatWasFreed(t *testing.T) {
	l := made(t, facts{free, 1, free, 1, free})
	wantTry(t, l, 1, 2, false, api.ErrOrder)
	wantFree(t, l, 1, 3, api.OK)
	wantTry(t, l, 1, 1, false, api.ErrOrder)
	wantTry(t, l, 1, 2, true, api.OK)
	wantFree(t, l, 1, 1, api.OK)
	wantTry(t, l, 1, 1, false, api.ErrOrder)
	wantTry(t, l, 1, 0, false, api.ErrOrder)
	wantTry(t, l, 1, 3, true, api.OK)
	wantDrop(t, l, 1, 2, api.OK)
	wantTry(t, l, 1, 0, true, api.OK)
	check(t, l, facts{1, free, free, free, free})
}

// P12.1: a try that is refused, or in vain, is not kept
func TestTriesInVainAreNotKept(t *testing.T) {
	l := made(t, facts{0, 1, free})
	for range 3 {
		wantTry(t, l, 2, 1, false, api.OK)
		wantTry(t, l, 0, 1, false, api.OK)
		wantTry(t, l, 1, 0, false, api.ErrOrder)
		check(t, l, facts{0, 1, free})
	}
	wantFree(t, l, 1, 1, api.OK)
	check(t, l, facts{0, free, free})
	wantTry(t, l, 2, 0, false, api.OK)
	wantTry(t, l, 2, 1, true, api.OK)
	check(t, l, facts{0, 2, free})
}

// P12.1: freed in any order, and only by who has it
func TestFree(t *testing.T) {
	for _, order := range [][]int{{0, 1, 2}, {0, 2, 1}, {1, 0, 2}, {1, 2, 0}, {2, 0, 1}, {2, 1, 0}} {
		f := facts{3, 3, 3}
		l := made(t, f)
		for _, rank := range order {
			for thread := range 3 {
				wantFree(t, l, thread, rank, api.ErrOwner)
			}
			wantFree(t, l, 3, rank, api.OK)
			f[rank] = free
			check(t, l, f)
			for thread := range 4 {
				wantFree(t, l, thread, rank, api.ErrOwner)
			}
			check(t, l, f)
		}
	}
}

// P12.1: all of a thread's, none of another one's
func TestDrop(t *testing.T) {
	f := none(most)
	for rank := range most {
		f[rank] = rank % 5
		if rank%5 == 4 {
			f[rank] = free
		}
	}
	l := made(t, f)
	for _, thread := range []int{2, 0, 3, 1} {
		want := len(f.held(thread))
		wantDrop(t, l, thread, want, api.OK)
		f.drop(thread)
		check(t, l, f)
		wantDrop(t, l, thread, 0, api.OK)
		check(t, l, f)
	}
	check(t, l, none(most))
	whole := slices.Repeat(facts{1}, most)
	wantDrop(t, made(t, whole), 1, most, api.OK)
	wantDrop(t, bare(t, 0), 1, 0, api.OK)
}

// P12.1, P12.2: threads that there are not, ahead of locks that there are not
func TestThreadsThatThereAreNot(t *testing.T) {
	f := facts{0, free, 1, 2, 3, free}
	l := made(t, f)
	for _, thread := range noThreads {
		for _, rank := range []int{0, 1, 2, 5, 6, 64, -1, -2, math.MaxInt, math.MinInt} {
			wantTry(t, l, thread, rank, false, api.ErrArg)
			wantFree(t, l, thread, rank, api.ErrArg)
			wantChain(t, l, thread, []int{-1, rank}, nil, api.ErrArg)
			wantChain(t, l, thread, []int{-1, -1, -1, rank}, nil, api.ErrArg)
		}
		wantDrop(t, l, thread, 0, api.ErrArg)
		wantChain(t, l, thread, nil, nil, api.ErrArg)
		wantHeld(t, l, thread)
	}
	check(t, l, f)
}

// P12.1, P12.2: locks that there are not, ahead of the order and of whose they are
func TestLocksThatThereAreNot(t *testing.T) {
	for _, many := range []int{0, 1, 2, 5, 63, 64} {
		f := none(many)
		for rank := range many {
			f[rank] = rank % 4
		}
		l := made(t, f)
		for _, rank := range outside(many) {
			if rank >= 0 && rank < many {
				continue
			}
			for thread := range 4 {
				wantTry(t, l, thread, rank, false, api.ErrRange)
				wantFree(t, l, thread, rank, api.ErrRange)
				if rank == -1 {
					continue
				}
				for at := range 4 {
					waits := []int{-1, -1, -1, -1}
					waits[at] = rank
					wantChain(t, l, thread, waits[:at+1], nil, api.ErrRange)
					wantChain(t, l, thread, waits, nil, api.ErrRange)
				}
			}
			wantHolder(t, l, rank, 0, false)
		}
		check(t, l, f)
	}
}

// P12.1 to P12.3; Rules: locks that are not there; a zero object is as a nil one
func TestNoLocks(t *testing.T) {
	refused, _ := lock.New(-1)
	tooMany, _ := lock.New(65)
	none := []*lock.Locks{nil, new(lock.Locks), {}, refused, tooMany, (*lock.Locks)(nil).Copy(), new(lock.Locks).Copy()}
	for i, l := range none {
		for _, thread := range []int{0, 3, 4, -1, math.MaxInt, math.MinInt} {
			for _, rank := range []int{0, 1, 64, -1, -2, math.MaxInt, math.MinInt} {
				wantTry(t, l, thread, rank, false, api.ErrNil)
				wantFree(t, l, thread, rank, api.ErrNil)
				wantChain(t, l, thread, []int{rank}, nil, api.ErrNil)
				wantChain(t, l, thread, []int{-1, -1, -1, -1, rank}, nil, api.ErrNil)
				wantHolder(t, l, rank, 0, false)
			}
			wantChain(t, l, thread, nil, nil, api.ErrNil)
			wantDrop(t, l, thread, 0, api.ErrNil)
			wantHeld(t, l, thread)
		}
		if l.Copy() != nil || l.All() == nil || len(told(l.All())) != 0 {
			t.Errorf("%d: Copy %v, All %v", i, l.Copy(), told(l.All()))
		}
		for k, o := range none {
			if !lock.Same(l, o) {
				t.Errorf("Same(%d, %d): false", i, k)
			}
		}
		for _, many := range []int{0, 1, 5} {
			if o := bare(t, many); lock.Same(l, o) || lock.Same(o, l) {
				t.Errorf("%d is the same as %d locks", i, many)
			}
		}
	}
}

// P12.1 to P12.3: those of which there is no lock are there
func TestLocksOfNone(t *testing.T) {
	for i, l := range []*lock.Locks{bare(t, 0), bare(t, 0).Copy(), bare(t, 0).Copy().Copy()} {
		wantTry(t, l, 0, 0, false, api.ErrRange)
		wantFree(t, l, 0, 0, api.ErrRange)
		wantDrop(t, l, 0, 0, api.OK)
		wantChain(t, l, 2, nil, []int{2}, api.OK)
		wantChain(t, l, 2, []int{-1, -1, -1, -1}, []int{2}, api.OK)
		wantChain(t, l, 2, []int{0}, nil, api.ErrRange)
		check(t, l, nil)
		if l.Copy() == nil || !lock.Same(l, bare(t, 0)) || lock.Same(l, nil) || lock.Same(nil, l) || lock.Same(l, bare(t, 1)) {
			t.Errorf("%d: Copy %v, Same %v %v %v %v", i, l.Copy(), lock.Same(l, bare(t, 0)), lock.Same(l, nil), lock.Same(nil, l), lock.Same(l, bare(t, 1)))
		}
	}
}

// P12.2: each lock of each thread, rising, whatever order they came in
func TestHolderAndHeld(t *testing.T) {
	r := rand.New(rand.NewSource(12))
	for range 200 {
		f := none(1 + r.Intn(most))
		for rank := range f {
			f[rank] = r.Intn(5) - 1
		}
		check(t, made(t, f), f)
	}
}

// P12.2; Rules: an answer is new memory
func TestAnswersAreApart(t *testing.T) {
	l := made(t, facts{1, 1, 0})
	held := l.Held(1)
	held[0], held[1] = 7, 7
	_ = append(held, 7)
	wantHeld(t, l, 1, 0, 1)
	waits := []int{-1, 2, 0}
	chain, _ := l.Chain(2, waits...)
	for i := range chain {
		chain[i] = 7
	}
	wantChain(t, l, 2, waits, []int{2, 1, 0}, api.OK)
	check(t, l, facts{1, 1, 0})
}

// P12.2; Rules: what is handed in is not changed, spare room behind it included
func TestWaitsAreNotChanged(t *testing.T) {
	f := facts{1, 1, 0, 2}
	for many := range 6 {
		room := []int{-1, 2, 3, 0, 9, 9}
		for thread := -1; thread < 6; thread++ {
			l := made(t, f)
			l.Chain(thread, room[:many]...)
			if !slices.Equal(room, []int{-1, 2, 3, 0, 9, 9}) {
				t.Fatalf("Chain(%d) of %d waits made %v of them", thread, many, room)
			}
			check(t, l, f)
		}
	}
}

// P12.2
func TestChain(t *testing.T) {
	for _, x := range []struct {
		f      facts
		thread int
		waits  []int
		want   []int
		e      api.Errno
	}{
		// The thread alone: it is not named, it waits for none, what it waits for is free.
		{facts{0, 1, 2}, 3, nil, []int{3}, api.OK},
		{facts{0, 1, 2}, 0, []int{}, []int{0}, api.OK},
		{facts{0, 1, 2}, 3, []int{1, 2}, []int{3}, api.OK},
		{facts{0, 1, 2}, 0, []int{-1}, []int{0}, api.OK},
		{facts{0, 1, 2}, 3, []int{1, 2, -1, -1}, []int{3}, api.OK},
		{facts{0, free, 2}, 0, []int{1}, []int{0}, api.OK},
		{facts{free}, 3, []int{0, 0, 0, 0}, []int{3}, api.OK},
		// Those behind it, to one that is not named, that waits for none, or for what is free.
		{facts{0, 1, 2}, 0, []int{1}, []int{0, 1}, api.OK},
		{facts{0, 1, 2}, 0, []int{1, 2}, []int{0, 1, 2}, api.OK},
		{facts{0, 1, 2}, 0, []int{2, 2}, []int{0, 2}, api.OK},
		{facts{0, 1, 2, 3}, 0, []int{1, 2, 3, -1}, []int{0, 1, 2, 3}, api.OK},
		{facts{0, 1, 2, 3}, 1, []int{1, 2, 3, -1}, []int{1, 2, 3}, api.OK},
		{facts{3, 2, 1, 0}, 3, []int{-1, 3, 2, 1}, []int{3, 2, 1, 0}, api.OK},
		{facts{3, 2, 1, 0, free}, 3, []int{4, 3, 2, 1}, []int{3, 2, 1, 0}, api.OK},
		{facts{3, 2, 1, 0, free}, 3, []int{4, 4, 2, 1}, []int{3, 2, 1}, api.OK},
		{facts{2, 0, 0, 1}, 2, []int{-1, -1, 1}, []int{2, 0}, api.OK},
		{facts{2, 0, 0, 1}, 3, []int{3, -1, 2, 0}, []int{3, 2, 0, 1}, api.OK},
		// Who waits itself for what several have.
		{facts{1}, 0, []int{0, -1, 0, 0}, []int{0, 1}, api.OK},
		{facts{1}, 2, []int{0, -1, 0, 0}, []int{2, 1}, api.OK},
		{facts{1}, 3, []int{0, -1, 0, 0}, []int{3, 1}, api.OK},
		{facts{1}, 1, []int{0, -1, 0, 0}, []int{1}, api.OK},
		// More waits than threads, whatever they are.
		{facts{0, 1}, 0, []int{-1, -1, -1, -1, -1}, nil, api.ErrArg},
		{facts{0, 1}, 0, []int{-1, -1, -1, -1, 7}, nil, api.ErrArg},
		{facts{0, 1}, 0, []int{0, -2, 9, 9, 9, 9}, nil, api.ErrArg},
		// Locks that there are not, ahead of the order, of any thread.
		{facts{0, 1}, 0, []int{-2}, nil, api.ErrRange},
		{facts{0, 1}, 0, []int{2}, nil, api.ErrRange},
		{facts{0, 1}, 3, []int{-1, -1, 2}, nil, api.ErrRange},
		{facts{0, 1}, 0, []int{0, -1, -1, 2}, nil, api.ErrRange},
		{facts{0, 1}, 0, []int{-2, 0}, nil, api.ErrRange},
		// What may not be tried, of any thread: what it has, what is below that, be it free, its own or another one's.
		{facts{0, 1}, 0, []int{0}, nil, api.ErrOrder},
		{facts{0, 1}, 3, []int{0}, nil, api.ErrOrder},
		{facts{0, 1}, 1, []int{-1, 0}, nil, api.ErrOrder},
		{facts{0, 1}, 0, []int{1, 0}, nil, api.ErrOrder},
		{facts{0, 1}, 3, []int{-1, 1}, nil, api.ErrOrder},
		{facts{free, 1}, 0, []int{-1, 0}, nil, api.ErrOrder},
		{facts{1, free, 1}, 0, []int{-1, 1}, nil, api.ErrOrder},
		{facts{free, free, free, 3}, 0, []int{2, -1, -1, 2}, nil, api.ErrOrder},
	} {
		l := made(t, x.f)
		wantChain(t, l, x.thread, x.waits, x.want, x.e)
		check(t, l, x.f)
	}
}

// allWaits goes over the waits of up to four threads for up to so many locks, those that may not be too.
func allWaits(many int) iter.Seq[[]int] {
	return func(yield func([]int) bool) {
		for n := range 5 {
			waits := slices.Repeat([]int{-2}, n)
			for {
				if !yield(waits) {
					return
				}
				at := 0
				for at < n && waits[at] == many {
					waits[at] = -2
					at++
				}
				if at == n {
					break
				}
				waits[at]++
			}
		}
	}
}

// going are the threads that do not wait.
func (f facts) going(waits []int) []int {
	var l []int
	for who, rank := range waits {
		if rank < 0 || f[rank] == free {
			l = append(l, who)
		}
	}
	return l
}

// P12.2, P12.4: of all that up to three locks may be, by all waits: nobody twice, the last one goes on
func TestChainsOfAllWaits(t *testing.T) {
	for _, many := range []int{1, 2, 3} {
		for f := range allFacts(many) {
			l := made(t, f)
			for waits := range allWaits(many) {
				for thread := range 4 {
					want, e := f.chain(thread, waits)
					got, g := l.Chain(thread, waits...)
					if !slices.Equal(got, want) || g != e {
						t.Fatalf("Chain(%d, %v) of %v: %v %v, want %v %v", thread, waits, f, got, g, want, e)
					}
					if e != api.OK {
						continue
					}
					last := got[len(got)-1]
					if once := slices.Compact(slices.Sorted(slices.Values(got))); len(once) != len(got) {
						t.Fatalf("Chain(%d, %v) of %v: %v names one twice", thread, waits, f, got)
					}
					if len(waits) == 4 && !slices.Contains(f.going(waits), last) {
						t.Fatalf("Chain(%d, %v) of %v: %v: the last one waits", thread, waits, f, got)
					}
				}
			}
			check(t, l, f)
		}
	}
}

// P12.3
func TestAllIsAsItWasWhenCalled(t *testing.T) {
	l := made(t, facts{free, 1, 0, free, 2})
	all := l.All()
	wantDrop(t, l, 1, 1, api.OK)
	wantTry(t, l, 3, 0, true, api.OK)
	wantFree(t, l, 2, 4, api.OK)
	wantTry(t, l, 0, 4, true, api.OK)
	for range 2 {
		if got := told(all); !slices.Equal(got, []owned{{1, 1}, {2, 0}, {4, 2}}) {
			t.Errorf("All of before: %v", got)
		}
	}
	if got := told(l.All()); !slices.Equal(got, []owned{{0, 3}, {2, 0}, {4, 0}}) {
		t.Errorf("All: %v", got)
	}
}

// P12.3
func TestAllWhileItIsChanged(t *testing.T) {
	l := made(t, facts{0, free, 1, free, 0})
	var got []owned
	for rank, who := range l.All() {
		got = append(got, owned{rank, who})
		for thread := range 4 {
			l.Drop(thread)
		}
		wantTry(t, l, 3, 1, true, api.OK)
		wantTry(t, l, 3, 4, true, api.OK)
	}
	if !slices.Equal(got, []owned{{0, 0}, {2, 1}, {4, 0}}) {
		t.Errorf("All while others came: %v", got)
	}
	check(t, l, facts{free, 3, free, free, 3})
}

// P12.3
func TestAllLeftAtAnyTimeAndGoneOverAgain(t *testing.T) {
	for _, f := range []facts{nil, {free}, {3}, {free, 0, free, free, 3}, {3, 2, 1, 0, 3}, {0, free, 0}} {
		l := made(t, f)
		all, whole := l.All(), f.all()
		for many := range len(whole) + 1 {
			var got []owned
			all(func(rank, who int) bool {
				if len(got) > many {
					t.Fatalf("%v: told on after it was left at %d", f, many)
				}
				got = append(got, owned{rank, who})
				return len(got) <= many
			})
			if !slices.Equal(got, whole[:min(many+1, len(whole))]) {
				t.Errorf("%v: left behind %d: %v", f, many, got)
			}
		}
		var got []owned
		for rank, who := range all {
			if inner := told(all); !slices.Equal(inner, whole) {
				t.Fatalf("%v: one within the other: %v", f, inner)
			}
			got = append(got, owned{rank, who})
		}
		if !slices.Equal(got, whole) {
			t.Errorf("%v: gone over again: %v", f, got)
		}
	}
}

// P12.3
func TestCopyGoesOnApart(t *testing.T) {
	for many := range most + 1 {
		f := none(many)
		for rank := range many {
			f[rank] = (rank*7)%5 - 1
		}
		l := made(t, f)
		o := l.Copy()
		if o == nil || o == l || !lock.Same(l, o) || !lock.Same(o, l) {
			t.Fatalf("of %d: Copy %v", many, o)
		}
		check(t, o, f)
		if many < 3 {
			continue
		}
		ours, theirs := slices.Clone(f), slices.Clone(f)
		ours.drop(1)
		wantDrop(t, l, 1, len(f.held(1)), api.OK)
		check(t, l, ours)
		check(t, o, theirs)
		theirs.drop(2)
		wantDrop(t, o, 2, len(f.held(2)), api.OK)
		theirs.drop(3)
		wantDrop(t, o, 3, len(f.held(3)), api.OK)
		is, e := theirs.try(3, 2)
		wantTry(t, o, 3, 2, is, e)
		check(t, l, ours)
		check(t, o, theirs)
		check(t, o.Copy(), theirs)
		if lock.Same(l, o) {
			t.Errorf("of %d: the same, though both were changed", many)
		}
	}
}

// P12.3: as many, the same of them the same threads'
func TestSame(t *testing.T) {
	var kinds []facts
	for many := range 4 {
		for f := range allFacts(many) {
			kinds = append(kinds, f)
		}
	}
	kinds = append(kinds, none(63), none(64), append(none(63), 0), append(none(63), 3), append(facts{0}, none(63)...))
	for i, f := range kinds {
		l := made(t, f)
		if !lock.Same(l, l) || !lock.Same(l, l.Copy()) {
			t.Errorf("%v is not as itself", f)
		}
		for k, g := range kinds {
			if lock.Same(l, made(t, g)) != (i == k) {
				t.Errorf("Same(%v, %v): %v", f, g, i != k)
			}
		}
	}
}

// P12.3: how locks became somebody's, and what was tried in vain, is not to be seen
func TestSameByOtherWays(t *testing.T) {
	a, b := bare(t, 3), bare(t, 3)
	wantTry(t, a, 0, 1, true, api.OK)
	wantTry(t, a, 1, 1, false, api.OK)
	wantFree(t, a, 0, 1, api.OK)
	if !lock.Same(a, b) || !lock.Same(b, a) {
		t.Error("not the same, though all are free")
	}
	wantTry(t, a, 1, 0, true, api.OK)
	wantTry(t, a, 1, 2, true, api.OK)
	wantTry(t, b, 0, 0, true, api.OK)
	wantTry(t, b, 0, 2, true, api.OK)
	wantTry(t, b, 0, 1, false, api.ErrOrder)
	wantDrop(t, b, 0, 2, api.OK)
	wantTry(t, b, 1, 0, true, api.OK)
	if lock.Same(a, b) || lock.Same(b, a) {
		t.Error("the same, though one more is somebody's")
	}
	wantTry(t, b, 1, 2, true, api.OK)
	if !lock.Same(a, b) || !lock.Same(b, a) {
		t.Error("not the same")
	}
	wantFree(t, b, 1, 0, api.OK)
	wantFree(t, a, 1, 2, api.OK)
	if lock.Same(a, b) || lock.Same(b, a) {
		t.Error("the same, though others are free")
	}
}

// P12.4: a lock is one thread's, till that one frees it
func TestTwoThreadsNeverHaveOneLock(t *testing.T) {
	for first := range 4 {
		l := bare(t, most)
		for rank := range most {
			got := 0
			for i := range 4 {
				is, _ := l.Try((first+i)%4, rank)
				if is {
					got++
				}
				wantHolder(t, l, rank, first, true)
			}
			if got != 1 {
				t.Fatalf("lock %d went to %d threads", rank, got)
			}
		}
		seen := 0
		for thread := range 4 {
			seen += len(l.Held(thread))
		}
		if seen != most {
			t.Errorf("%d locks are had of %d", seen, most)
		}
	}
}

// P12.4: threads that take all they want, rising, and then free it, all come to their ends: at the end of whoever's chain there is one that goes on
func TestAllGoOn(t *testing.T) {
	r := rand.New(rand.NewSource(4))
	for range 300 {
		l := bare(t, 6)
		var wants [4][]int
		for thread := range wants {
			for rank := range 6 {
				if r.Intn(2) == 0 {
					wants[thread] = append(wants[thread], rank)
				}
			}
		}
		for left := []int{0, 1, 2, 3}; len(left) > 0; {
			waits := []int{-1, -1, -1, -1}
			for thread, w := range wants {
				if len(w) > 0 {
					waits[thread] = w[0]
				}
			}
			chain, e := l.Chain(left[r.Intn(len(left))], waits...)
			if e != api.OK {
				t.Fatalf("Chain by %v of %v: %v", waits, told(l.All()), e)
			}
			goes := chain[len(chain)-1]
			if waits[goes] >= 0 {
				wantTry(t, l, goes, waits[goes], true, api.OK)
				wants[goes] = wants[goes][1:]
				continue
			}
			l.Drop(goes)
			left = slices.DeleteFunc(left, func(thread int) bool { return thread == goes })
		}
		check(t, l, none(6))
	}
}

// P12.1 to P12.4: calls in any order, held against facts
func TestCallsInAnyOrder(t *testing.T) {
	r := rand.New(rand.NewSource(12))
	for _, many := range []int{1, 2, 5, 11, most} {
		l, f := bare(t, many), none(many)
		for turn := range 6000 {
			thread, rank := r.Intn(6)-1, r.Intn(many+2)-1
			switch r.Intn(8) {
			case 0, 1, 2, 3:
				is, e := f.try(thread, rank)
				wantTry(t, l, thread, rank, is, e)
			case 4, 5:
				wantFree(t, l, thread, rank, f.free(thread, rank))
			case 6:
				n, e := f.drop(thread)
				wantDrop(t, l, thread, n, e)
			case 7:
				waits := make([]int, r.Intn(6))
				for i := range waits {
					waits[i] = r.Intn(many+1) - 1
				}
				want, e := f.chain(thread, waits)
				wantChain(t, l, thread, waits, want, e)
			}
			if turn%100 == 0 || many < 6 {
				check(t, l, f)
			}
			if turn%1000 == 999 {
				o := l.Copy()
				l.Drop(0)
				check(t, o, f)
				l = o
			}
		}
		check(t, l, f)
	}
}
