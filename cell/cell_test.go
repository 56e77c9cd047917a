package cell_test

import (
	"iter"
	"math"
	"math/rand"
	"slices"
	"testing"

	"pinfold/api"
	"pinfold/cell"
)

const most = 1024

// lengths are numbers of cells: none, few, those beside powers of 2, the most.
var lengths = []int{0, 1, 2, 3, 7, 8, 9, 63, 64, 65, 255, 256, 257, 1000, 1023, 1024}

// noLengths are numbers of cells that may not be: those beside, those that a narrower kind would cut to one that may.
var noLengths = []int{1025, 1026, 2048, 4096, 65536, 65537, 1 << 31, 1 << 32, 1<<32 + 5, 1 << 62, math.MaxInt32, math.MaxInt - 1, math.MaxInt, -1, -2, -5, -64, -1024, -1025, -65536, -1 << 31, -1 << 32, 5 - 1<<32, math.MinInt32, math.MinInt, math.MinInt + 1, math.MinInt + 5}

// words are the edges of words, and of what narrower or signed kinds would make of them.
var words = []uint64{0, 1, 2, 7, 8, 255, 256, 1<<16 - 1, 1 << 16, 1<<31 - 1, 1 << 31, 1<<32 - 1, 1 << 32, 1<<32 + 1, 1<<53 + 1, 1<<63 - 1, 1 << 63, 1<<63 + 1, math.MaxUint64 - 1, math.MaxUint64}

// outside are cells that there are not, of many.
func outside(many int) []int {
	return []int{many, many + 1, many + 63, many + 64, many + 256, many + 65536, 1024, 1025, 1 << 31, 1 << 32, 1<<32 + many/2, 1<<62 + 1, math.MaxInt - 1, math.MaxInt, -1, -2, -63, -64, -256, -1024, -1 << 32, many/2 - 1<<32, math.MinInt, math.MinInt + 1, math.MinInt + many/2}
}

func made(t *testing.T, many int) *cell.Cells {
	t.Helper()
	c, e := cell.New(many)
	if c == nil || e != api.OK {
		t.Fatalf("New(%d): %v %v", many, c, e)
	}
	return c
}

// stored are cells into which those words are stored, each once.
func stored(t *testing.T, l ...uint64) *cell.Cells {
	t.Helper()
	c := made(t, len(l))
	for at, n := range l {
		wantStore(t, c, at, n, api.OK)
	}
	return c
}

func wantLoad(t *testing.T, c *cell.Cells, at int, want uint64, e api.Errno) {
	t.Helper()
	if n, f := c.Load(at); n != want || f != e {
		t.Fatalf("Load(%d): %d %v, want %d %v", at, n, f, want, e)
	}
}

func wantStore(t *testing.T, c *cell.Cells, at int, n uint64, e api.Errno) {
	t.Helper()
	if f := c.Store(at, n); f != e {
		t.Fatalf("Store(%d, %d): %v, want %v", at, n, f, e)
	}
}

func wantSwap(t *testing.T, c *cell.Cells, at int, from, to uint64, want bool, e api.Errno) {
	t.Helper()
	if was, f := c.Swap(at, from, to); was != want || f != e {
		t.Fatalf("Swap(%d, %d, %d): %v %v, want %v %v", at, from, to, was, f, want, e)
	}
}

func wantCount(t *testing.T, c *cell.Cells, at, want int, e api.Errno) {
	t.Helper()
	if n, f := c.Count(at); n != want || f != e {
		t.Fatalf("Count(%d): %d %v, want %d %v", at, n, f, want, e)
	}
}

// fact is what a cell is: its word, and how often it was written.
type fact struct {
	word  uint64
	count int
}

// numbered is a cell that is not 0.
type numbered struct {
	at   int
	word uint64
}

func told(all iter.Seq2[int, uint64]) []numbered {
	var l []numbered
	for at, n := range all {
		l = append(l, numbered{at, n})
	}
	return l
}

// notZero is what All tells of facts.
func notZero(facts []fact) []numbered {
	var l []numbered
	for at, f := range facts {
		if f.word != 0 {
			l = append(l, numbered{at, f.word})
		}
	}
	return l
}

// check holds all that cells tell against facts.
func check(t *testing.T, c *cell.Cells, facts []fact) {
	t.Helper()
	if c.Len() != len(facts) {
		t.Fatalf("Len: %d, want %d", c.Len(), len(facts))
	}
	for at, f := range facts {
		wantLoad(t, c, at, f.word, api.OK)
		wantCount(t, c, at, f.count, api.OK)
	}
	if got, want := told(c.All()), notZero(facts); !slices.Equal(got, want) {
		t.Fatalf("All: %v, want %v", got, want)
	}
}

// P11.1, the examples
func TestExamples(t *testing.T) {
	c := made(t, 2)
	wantSwap(t, c, 0, 0, 7, true, api.OK)
	wantSwap(t, c, 0, 0, 8, false, api.OK)
	wantLoad(t, c, 0, 7, api.OK)
	wantCount(t, c, 0, 1, api.OK)
	wantStore(t, c, 1, 7, api.OK)
	wantSwap(t, c, 1, 7, 7, true, api.OK)
	wantCount(t, c, 1, 2, api.OK)
	wantLoad(t, c, 2, 0, api.ErrRange)
	if c, e := cell.New(1025); c != nil || e != api.ErrArg {
		t.Errorf("New(1025): %v %v", c, e)
	}
	check(t, c, []fact{{7, 1}, {7, 2}})
}

// P11.1: at first all are 0, and were never written
func TestNew(t *testing.T) {
	for many := range most + 1 {
		if many%50 == 0 || slices.Contains(lengths, many) {
			check(t, made(t, many), make([]fact, many))
		}
	}
	for _, many := range noLengths {
		if c, e := cell.New(many); c != nil || e != api.ErrArg {
			t.Errorf("New(%d): %v %v, want ErrArg", many, c, e)
		}
	}
}

// P11.1
func TestNewOnesAreApart(t *testing.T) {
	a, b := made(t, 3), made(t, 3)
	wantStore(t, a, 1, 5, api.OK)
	wantSwap(t, a, 2, 0, 6, true, api.OK)
	check(t, a, []fact{{}, {5, 1}, {6, 1}})
	check(t, b, make([]fact, 3))
}

// P11.1: whatever the word, also the one that there is
func TestStoreEachWord(t *testing.T) {
	c := made(t, 1)
	count := 0
	for _, n := range words {
		for range 3 {
			wantStore(t, c, 0, n, api.OK)
			count++
			check(t, c, []fact{{n, count}})
		}
		wantStore(t, c, 0, ^n, api.OK)
		count++
		check(t, c, []fact{{^n, count}})
	}
}

// P11.1: 0 over 0 is written too
func TestStoreOfZeroIsCounted(t *testing.T) {
	c := made(t, 2)
	wantStore(t, c, 1, 0, api.OK)
	check(t, c, []fact{{}, {0, 1}})
	wantStore(t, c, 1, 9, api.OK)
	wantStore(t, c, 1, 0, api.OK)
	check(t, c, []fact{{}, {0, 3}})
}

// P11.1: from each word to each, of a cell that is each
func TestSwapEachWord(t *testing.T) {
	for _, is := range words {
		for _, from := range words {
			for _, to := range words {
				c := stored(t, 3, is, 4)
				wantSwap(t, c, 1, from, to, is == from, api.OK)
				want := fact{is, 1}
				if is == from {
					want = fact{to, 2}
				}
				check(t, c, []fact{{3, 1}, want, {4, 1}})
			}
		}
	}
}

// P11.1: words that differ in one bit are other ones
func TestSwapLooksAtEachBit(t *testing.T) {
	for _, is := range words {
		for bit := range 64 {
			c := stored(t, is)
			wantSwap(t, c, 0, is^1<<bit, 5, false, api.OK)
			check(t, c, []fact{{is, 1}})
			wantSwap(t, c, 0, is, is^1<<bit, true, api.OK)
			check(t, c, []fact{{is ^ 1<<bit, 2}})
		}
	}
}

// P11.1: each cell is one of its own
func TestEachCell(t *testing.T) {
	for _, many := range lengths {
		c := made(t, many)
		facts := make([]fact, many)
		for at := range many {
			n := uint64(at)*3 + 1
			wantStore(t, c, at, n, api.OK)
			facts[at] = fact{n, 1}
		}
		check(t, c, facts)
		for at := many - 1; at >= 0; at -= 5 {
			wantSwap(t, c, at, uint64(at)*3+1, uint64(at)<<40, true, api.OK)
			facts[at] = fact{uint64(at) << 40, 2}
		}
		check(t, c, facts)
	}
}

// P11.1: loading, counting and swaps that are not done change nothing
func TestLooksChangeNothing(t *testing.T) {
	c := stored(t, 0, 5, math.MaxUint64)
	for range 4 {
		for at, n := range []uint64{0, 5, math.MaxUint64} {
			wantLoad(t, c, at, n, api.OK)
			wantCount(t, c, at, 1, api.OK)
			wantSwap(t, c, at, n+1, 77, false, api.OK)
			wantSwap(t, c, at, n+1, n, false, api.OK)
		}
		c.Len()
		told(c.All())
		cell.Same(c, c.Copy())
		check(t, c, []fact{{0, 1}, {5, 1}, {math.MaxUint64, 1}})
	}
}

// P11.1
func TestCellsThatThereAreNot(t *testing.T) {
	for _, many := range lengths {
		c := made(t, many)
		facts := make([]fact, many)
		for at := range many {
			wantStore(t, c, at, uint64(at+1), api.OK)
			facts[at] = fact{uint64(at + 1), 1}
		}
		for _, at := range outside(many) {
			if at >= 0 && at < many {
				continue
			}
			wantLoad(t, c, at, 0, api.ErrRange)
			wantCount(t, c, at, 0, api.ErrRange)
			for _, n := range []uint64{0, 1, 5, math.MaxUint64} {
				wantStore(t, c, at, n, api.ErrRange)
				wantSwap(t, c, at, n, 9, false, api.ErrRange)
				wantSwap(t, c, at, 0, n, false, api.ErrRange)
			}
		}
		check(t, c, facts)
	}
}

// P11.1, P11.2; Rules: cells that are not there; a zero object is as a nil one
func TestNoCells(t *testing.T) {
	refused, _ := cell.New(-1)
	tooMany, _ := cell.New(1025)
	none := []*cell.Cells{nil, new(cell.Cells), {}, refused, tooMany, (*cell.Cells)(nil).Copy(), new(cell.Cells).Copy()}
	for i, c := range none {
		for _, at := range []int{0, 1, 1023, 1024, math.MaxInt, -1, math.MinInt} {
			wantLoad(t, c, at, 0, api.ErrNil)
			wantCount(t, c, at, 0, api.ErrNil)
			wantStore(t, c, at, 5, api.ErrNil)
			wantSwap(t, c, at, 0, 0, false, api.ErrNil)
			wantSwap(t, c, at, 0, 5, false, api.ErrNil)
		}
		if c.Len() != 0 || c.Copy() != nil || c.All() == nil || len(told(c.All())) != 0 {
			t.Errorf("%d: Len %d, Copy %v, All %v", i, c.Len(), c.Copy(), told(c.All()))
		}
		for k, o := range none {
			if !cell.Same(c, o) {
				t.Errorf("Same(%d, %d): false", i, k)
			}
		}
		for _, many := range []int{0, 1, 5} {
			if o := made(t, many); cell.Same(c, o) || cell.Same(o, c) {
				t.Errorf("%d is the same as %d cells", i, many)
			}
		}
	}
}

// P11.1, P11.2: those of which there is no cell are there
func TestCellsOfNone(t *testing.T) {
	for i, c := range []*cell.Cells{made(t, 0), made(t, 0).Copy(), made(t, 0).Copy().Copy()} {
		wantLoad(t, c, 0, 0, api.ErrRange)
		wantStore(t, c, 0, 0, api.ErrRange)
		wantSwap(t, c, 0, 0, 0, false, api.ErrRange)
		wantCount(t, c, 0, 0, api.ErrRange)
		check(t, c, nil)
		if c.Copy() == nil || !cell.Same(c, made(t, 0)) || cell.Same(c, nil) || cell.Same(nil, c) || cell.Same(c, made(t, 1)) {
			t.Errorf("%d: Copy %v, Same %v %v %v %v", i, c.Copy(), cell.Same(c, made(t, 0)), cell.Same(c, nil), cell.Same(nil, c), cell.Same(c, made(t, 1)))
		}
	}
}

// P11.2
func TestAll(t *testing.T) {
	for _, x := range []struct {
		words []uint64
		want  []numbered
	}{
		{nil, nil},
		{[]uint64{0}, nil},
		{[]uint64{0, 0, 0}, nil},
		{[]uint64{9}, []numbered{{0, 9}}},
		{[]uint64{0, 9}, []numbered{{1, 9}}},
		{[]uint64{9, 0}, []numbered{{0, 9}}},
		{[]uint64{5, 0, 4, 0, 0, math.MaxUint64, 1 << 63, 0}, []numbered{{0, 5}, {2, 4}, {5, math.MaxUint64}, {6, 1 << 63}}},
		{[]uint64{1 << 32, 1 << 63, 1 << 8}, []numbered{{0, 1 << 32}, {1, 1 << 63}, {2, 1 << 8}}},
	} {
		if got := told(stored(t, x.words...).All()); !slices.Equal(got, x.want) {
			t.Errorf("All of %v: %v, want %v", x.words, got, x.want)
		}
	}
}

// P11.2: cells that are 0 again are not told
func TestAllOfCellsThatWereWritten(t *testing.T) {
	c := stored(t, 1, 2, 3, 4)
	wantStore(t, c, 0, 0, api.OK)
	wantSwap(t, c, 2, 3, 0, true, api.OK)
	wantSwap(t, c, 3, 4, 4, true, api.OK)
	if got := told(c.All()); !slices.Equal(got, []numbered{{1, 2}, {3, 4}}) {
		t.Errorf("All: %v", got)
	}
}

// P11.2
func TestAllIsAsItWasWhenCalled(t *testing.T) {
	c := stored(t, 0, 5, 6, 0)
	all := c.All()
	wantStore(t, c, 0, 1, api.OK)
	wantStore(t, c, 1, 0, api.OK)
	wantSwap(t, c, 2, 6, 60, true, api.OK)
	for range 2 {
		if got := told(all); !slices.Equal(got, []numbered{{1, 5}, {2, 6}}) {
			t.Errorf("All of before: %v", got)
		}
	}
	if got := told(c.All()); !slices.Equal(got, []numbered{{0, 1}, {2, 60}}) {
		t.Errorf("All: %v", got)
	}
}

// P11.2
func TestAllWhileItIsChanged(t *testing.T) {
	for _, to := range []uint64{0, 7, math.MaxUint64} {
		c := stored(t, 1, 0, 3, 0, 5)
		var got []numbered
		for at, n := range c.All() {
			got = append(got, numbered{at, n})
			for x := range c.Len() {
				wantStore(t, c, x, to, api.OK)
			}
		}
		if !slices.Equal(got, []numbered{{0, 1}, {2, 3}, {4, 5}}) {
			t.Errorf("All while each became %d: %v", to, got)
		}
		check(t, c, []fact{{to, 4}, {to, 4}, {to, 4}, {to, 4}, {to, 4}})
	}
}

// P11.2
func TestAllLeftAtAnyTimeAndGoneOverAgain(t *testing.T) {
	for _, l := range [][]uint64{nil, {0}, {4}, {0, 4, 0, 0, 5}, {1, 2, 3, 4, 5}, {math.MaxUint64, 0, 1}} {
		c := stored(t, l...)
		all, whole := c.All(), told(c.All())
		for many := range len(whole) + 1 {
			var got []numbered
			all(func(at int, n uint64) bool {
				if len(got) > many {
					t.Fatalf("%v: told on after it was left at %d", l, many)
				}
				got = append(got, numbered{at, n})
				return len(got) <= many
			})
			if !slices.Equal(got, whole[:min(many+1, len(whole))]) {
				t.Errorf("%v: left behind %d: %v", l, many, got)
			}
		}
		var got []numbered
		for at, n := range all {
			if inner := told(all); !slices.Equal(inner, whole) {
				t.Fatalf("%v: one within the other: %v", l, inner)
			}
			got = append(got, numbered{at, n})
		}
		if !slices.Equal(got, whole) {
			t.Errorf("%v: gone over again: %v", l, got)
		}
	}
}

// P11.2
func TestCopyGoesOnApart(t *testing.T) {
	for _, many := range lengths {
		c := made(t, many)
		facts := make([]fact, many)
		for at := range many {
			for n := range at % 4 {
				wantStore(t, c, at, uint64(n*at), api.OK)
				facts[at] = fact{uint64(n * at), n + 1}
			}
		}
		o := c.Copy()
		if o == nil || o == c || !cell.Same(c, o) || !cell.Same(o, c) {
			t.Fatalf("of %d: Copy %v", many, o)
		}
		check(t, o, facts)
		if many == 0 {
			continue
		}
		ours, theirs := slices.Clone(facts), slices.Clone(facts)
		wantStore(t, c, 0, 77, api.OK)
		ours[0] = fact{77, facts[0].count + 1}
		check(t, o, theirs)
		wantSwap(t, o, many-1, facts[many-1].word, 88, true, api.OK)
		theirs[many-1] = fact{88, facts[many-1].count + 1}
		check(t, c, ours)
		check(t, o, theirs)
		check(t, o.Copy(), theirs)
		if cell.Same(c, o) {
			t.Errorf("of %d: the same, though both were written", many)
		}
	}
}

// P11.2: as many, the same words, the same counts
func TestSame(t *testing.T) {
	kinds := []func() *cell.Cells{
		func() *cell.Cells { return nil },
		func() *cell.Cells { return made(t, 0) },
		func() *cell.Cells { return made(t, 1) },
		func() *cell.Cells { return made(t, 2) },
		func() *cell.Cells { return made(t, most) },
		func() *cell.Cells { return stored(t, 0) },
		func() *cell.Cells { return stored(t, 5) },
		func() *cell.Cells { return stored(t, 1<<32+5) },
		func() *cell.Cells { return stored(t, 5, 0) },
		func() *cell.Cells { return stored(t, 0, 5) },
		func() *cell.Cells { return stored(t, 5, 5) },
		func() *cell.Cells { return stored(t, 5, 6) },
		func() *cell.Cells { return stored(t, 6, 5) },
		func() *cell.Cells { return stored(t, 5, 5, 0) },
		func() *cell.Cells { c := stored(t, 5, 5); c.Store(1, 5); return c },
		func() *cell.Cells { c := stored(t, 5, 5); c.Store(0, 5); return c },
		func() *cell.Cells { c := stored(t, 5, 5); c.Store(0, 5); c.Store(0, 5); return c },
		func() *cell.Cells { c := made(t, 2); c.Store(0, 5); return c },
		func() *cell.Cells { c := made(t, 2); c.Store(1, 5); return c },
	}
	for i, a := range kinds {
		x := a()
		if !cell.Same(x, x) || !cell.Same(x, x.Copy()) {
			t.Errorf("%d is not as itself", i)
		}
		for k, b := range kinds {
			if cell.Same(x, b()) != (i == k) {
				t.Errorf("Same(%d, %d): %v", i, k, i != k)
			}
		}
	}
}

// P11.2: how cells were written is not to be seen, nor what was asked or refused
func TestSameByOtherWays(t *testing.T) {
	a, b := made(t, 3), made(t, 3)
	wantStore(t, a, 0, 4, api.OK)
	wantStore(t, a, 0, 5, api.OK)
	wantStore(t, a, 2, 6, api.OK)
	wantSwap(t, b, 2, 0, 6, true, api.OK)
	wantSwap(t, b, 2, 0, 7, false, api.OK)
	wantSwap(t, b, 0, 0, 9, true, api.OK)
	wantStore(t, b, 3, 9, api.ErrRange)
	if cell.Same(a, b) {
		t.Error("the same, though one word differs")
	}
	wantSwap(t, b, 0, 9, 5, true, api.OK)
	if !cell.Same(a, b) || !cell.Same(b, a) {
		t.Error("not the same")
	}
	wantSwap(t, b, 1, 0, 0, true, api.OK)
	if cell.Same(a, b) || cell.Same(b, a) {
		t.Error("the same, though one count differs")
	}
	wantStore(t, a, 1, 0, api.OK)
	if !cell.Same(a, b) {
		t.Error("not the same, though both wrote 0 once")
	}
}

// P11.3: of swaps from one word to others just the first is done, whichever it is
func TestJustTheFirstSwapIsDone(t *testing.T) {
	for _, from := range words {
		for first := range words {
			c := stored(t, from, from)
			done, last := 0, from
			for i := range words {
				to := words[(first+i)%len(words)]
				if to == from {
					continue
				}
				was, e := c.Swap(1, from, to)
				if e != api.OK || was != (done == 0) {
					t.Fatalf("Swap(1, %d, %d) behind %d done: %v %v", from, to, done, was, e)
				}
				if was {
					done, last = done+1, to
				}
			}
			check(t, c, []fact{{from, 1}, {last, done + 1}})
		}
	}
}

// P11.3: swaps of one cell do not stand in the way of those of another, nor those of a copy
func TestSwapsOfOtherCells(t *testing.T) {
	c := made(t, 4)
	o := c.Copy()
	for at := range 4 {
		wantSwap(t, c, at, 0, uint64(at)+1, true, api.OK)
		wantSwap(t, c, at, 0, 9, false, api.OK)
		wantSwap(t, o, at, 0, 8, true, api.OK)
	}
	check(t, c, []fact{{1, 1}, {2, 1}, {3, 1}, {4, 1}})
	check(t, o, []fact{{8, 1}, {8, 1}, {8, 1}, {8, 1}})
}

// P11.3: a word that went and came back is told by the count alone
func TestTheCountTellsThatAWordCameBack(t *testing.T) {
	c := stored(t, 5)
	wantSwap(t, c, 0, 5, 6, true, api.OK)
	wantSwap(t, c, 0, 6, 5, true, api.OK)
	check(t, c, []fact{{5, 3}})
	wantSwap(t, c, 0, 5, 7, true, api.OK)
	check(t, c, []fact{{7, 4}})
}

// write writes facts as a call of that kind does, and tells whether it was done.
func (f *fact) write(kind int, from, to uint64) bool {
	if kind == 0 && f.word != from {
		return false
	}
	f.word, f.count = to, f.count+1
	return true
}

// P11.1 to P11.3: calls in any order, held against facts; a count that is what it was says the word
func TestCallsInAnyOrder(t *testing.T) {
	r := rand.New(rand.NewSource(11))
	for _, many := range []int{1, 2, 5, 64, most} {
		c := made(t, many)
		facts := make([]fact, many)
		seen := map[[2]int]uint64{}
		for turn := range 4000 {
			at, kind := r.Intn(many), r.Intn(2)
			from, to := words[r.Intn(4)], words[r.Intn(4)]
			done := facts[at].write(kind, from, to)
			if kind == 0 {
				wantSwap(t, c, at, from, to, done, api.OK)
			} else {
				wantStore(t, c, at, to, api.OK)
			}
			n, _ := c.Load(at)
			count, _ := c.Count(at)
			if was, is := seen[[2]int{at, count}]; is && was != n {
				t.Fatalf("cell %d, written %d times, was %d and is %d", at, count, was, n)
			}
			seen[[2]int{at, count}] = n
			if turn%500 == 0 || many < 6 {
				check(t, c, facts)
			}
			if turn%1000 == 999 {
				o := c.Copy()
				wantStore(t, c, at, 1, api.OK)
				check(t, o, facts)
				c = o
			}
		}
		check(t, c, facts)
	}
}
