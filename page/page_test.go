package page_test

import (
	"iter"
	"maps"
	"math"
	"math/rand"
	"slices"
	"testing"

	"pinfold/api"
	"pinfold/page"
)

// owners is how many owners there may be, beside nobody.
const owners = 64

// mays are what may be done.
var mays = []api.May{api.MayNone, api.MayRead, api.MayWrite}

// noOwners are those just beyond both ends, and those that a narrower kind would cut to one that may be.
var noOwners = []int{-2, -3, -63, -64, -65, -255, -256, -257, 64, 65, 127, 128, 255, 256, 257, 65535, 65536, 1 << 31, 1<<32 - 1, 1 << 32, 1<<32 + 1, math.MaxInt, math.MinInt32, math.MinInt, math.MinInt + 1}

// noMays are those just beyond both ends, and those that a narrower kind would cut to one that may be.
var noMays = []api.May{-1, -2, 3, 4, 255, 256, 257, 258, -254, -255, -256, 65536, 1 << 31, 1 << 32, 1<<32 + 1, 2 - 1<<32, math.MaxInt, math.MinInt, math.MinInt + 2}

// noFrames are numbers below 0, those among them that a narrower kind would cut to one that may be.
var noFrames = []int{-1, -2, -255, -256, -16384, -65536, -1 << 31, 1 - 1<<32, -1 << 32, math.MinInt, math.MinInt + 1}

// noPages are pages that there are not.
var noPages = []int{-1, -2, -255, -256, -65535, -65536, -65537, -1 << 31, 1 - 1<<32, -1 << 32, math.MinInt, math.MinInt + 1, math.MinInt + 65536, 65536, 65537, 65541, 131072, 1 << 24, 1 << 31, 1 << 32, 1<<32 + 5, math.MaxInt - 65535, math.MaxInt - 1, math.MaxInt}

// noMany are numbers of fewer pages than one.
var noMany = []int{0, -1, -2, -256, -65536, 1 - 1<<32, -1 << 32, math.MinInt, math.MinInt + 1, math.MinInt + 65536}

// entry is one of an owner's.
func entry(owner int, may api.May, frame int) api.Entry {
	return api.Entry{Owner: owner, May: may, Frame: frame}
}

// tabled is a table of those entries.
func tabled(t *testing.T, m map[int]api.Entry) *page.Table {
	t.Helper()
	p := page.New()
	for _, x := range slices.Sorted(maps.Keys(m)) {
		wantMap(t, p, x, m[x], api.OK)
	}
	return p
}

// some are entries of several owners, of frames in no order.
func some() map[int]api.Entry {
	return map[int]api.Entry{
		0:     entry(1, api.MayRead, 9),
		5:     entry(api.Nobody, api.MayNone, 3),
		6:     entry(1, api.MayWrite, 0),
		7:     entry(63, api.MayWrite, 7),
		300:   entry(0, api.MayNone, 8),
		65534: entry(1, api.MayNone, 1),
		65535: entry(api.Nobody, api.MayWrite, 20000),
	}
}

func wantMap(t *testing.T, p *page.Table, x int, n api.Entry, e api.Errno) {
	t.Helper()
	if f := p.Map(x, n); f != e {
		t.Fatalf("Map(%d, %v): %v, want %v", x, n, f, e)
	}
}

func wantUnmap(t *testing.T, p *page.Table, x int, want api.Entry, e api.Errno) {
	t.Helper()
	if n, f := p.Unmap(x); n != want || f != e {
		t.Fatalf("Unmap(%d): %v %v, want %v %v", x, n, f, want, e)
	}
}

func wantProtect(t *testing.T, p *page.Table, x int, may, want api.May, e api.Errno) {
	t.Helper()
	if m, f := p.Protect(x, may); m != want || f != e {
		t.Fatalf("Protect(%d, %d): %v %v, want %v %v", x, may, m, f, want, e)
	}
}

func wantGet(t *testing.T, p *page.Table, x int, want api.Entry, is bool) {
	t.Helper()
	if n, got := p.Get(x); n != want || got != is {
		t.Fatalf("Get(%d): %v %v, want %v %v", x, n, got, want, is)
	}
}

func wantFree(t *testing.T, p *page.Table, from, many int, want bool, e api.Errno) {
	t.Helper()
	if is, f := p.Free(from, many); is != want || f != e {
		t.Fatalf("Free(%d, %d): %v %v, want %v %v", from, many, is, f, want, e)
	}
}

func wantNext(t *testing.T, p *page.Table, from, many, want int, is bool) {
	t.Helper()
	if x, got := p.Next(from, many); x != want || got != is {
		t.Fatalf("Next(%d, %d): %d %v, want %d %v", from, many, x, got, want, is)
	}
}

// mapping is what an iterator tells at once.
type mapping struct {
	page int
	x    api.Entry
}

// told are what an iterator tells.
func told(all iter.Seq2[int, api.Entry]) []mapping {
	var l []mapping
	for at, x := range all {
		l = append(l, mapping{at, x})
	}
	return l
}

// facts are what a table is, by a plain list of all pages.
type facts struct {
	is [api.MaxPages]bool
	x  [api.MaxPages]api.Entry
}

func factsOf(m map[int]api.Entry) *facts {
	f := &facts{}
	for at, x := range m {
		f.is[at], f.x[at] = true, x
	}
	return f
}

// all are the pages of each owner.
func (f *facts) all() map[int][]mapping {
	l := map[int][]mapping{}
	for at, x := range f.x {
		if f.is[at] {
			l[x.Owner] = append(l[x.Owner], mapping{at, x})
		}
	}
	return l
}

func (f *facts) pageError(x int) api.Errno {
	switch {
	case x < 0 || x >= api.MaxPages:
		return api.ErrRange
	case !f.is[x]:
		return api.ErrNone
	}
	return api.OK
}

func (f *facts) framed(frame int) bool {
	for at := range f.x {
		if f.is[at] && f.x[at].Frame == frame {
			return true
		}
	}
	return false
}

func (f *facts) mapError(x int, n api.Entry) api.Errno {
	switch {
	case n.Owner < -1 || n.Owner > 63 || n.May < 0 || n.May > 2 || n.Frame < 0:
		return api.ErrArg
	case x < 0 || x >= api.MaxPages:
		return api.ErrRange
	case f.is[x]:
		return api.ErrMapped
	case f.framed(n.Frame):
		return api.ErrFrame
	}
	return api.OK
}

func (f *facts) put(x int, n api.Entry) api.Errno {
	e := f.mapError(x, n)
	if e == api.OK {
		f.is[x], f.x[x] = true, n
	}
	return e
}

func (f *facts) unmap(x int) (api.Entry, api.Errno) {
	e := f.pageError(x)
	if e != api.OK {
		return api.Entry{}, e
	}
	n := f.x[x]
	f.is[x], f.x[x] = false, api.Entry{}
	return n, api.OK
}

func (f *facts) protect(x int, may api.May) (api.May, api.Errno) {
	e := f.pageError(x)
	if may < 0 || may > 2 {
		e = api.ErrArg
	}
	if e != api.OK {
		return 0, e
	}
	was := f.x[x].May
	f.x[x].May = may
	return was, api.OK
}

func (f *facts) free(from, many int) (bool, api.Errno) {
	switch {
	case many < 1:
		return false, api.ErrArg
	case from < 0 || from >= api.MaxPages || many > api.MaxPages || from+many > api.MaxPages:
		return false, api.ErrRange
	}
	return !slices.Contains(f.is[from:from+many], true), api.OK
}

func (f *facts) next(from, many int) (int, bool) {
	for at := max(from, 0); at < api.MaxPages; at++ {
		if is, _ := f.free(at, many); is {
			return at, true
		}
	}
	return 0, false
}

// check holds all that a table tells of its entries against the facts.
func check(t *testing.T, p *page.Table, f *facts) {
	t.Helper()
	many, l := 0, f.all()
	for at, x := range f.x {
		wantGet(t, p, at, x, f.is[at])
	}
	for owner := -3; owner <= owners+1; owner++ {
		if got := told(p.All(owner)); !slices.Equal(got, l[owner]) {
			t.Fatalf("All(%d): %v, want %v", owner, got, l[owner])
		}
		many += len(l[owner])
	}
	if p.Len() != many {
		t.Fatalf("Len: %d, want %d", p.Len(), many)
	}
}

// P8.1, P8.2, the examples
func TestExamples(t *testing.T) {
	p := page.New()
	wantMap(t, p, 5, entry(1, api.MayRead, 0), api.OK)
	wantMap(t, p, 5, entry(1, api.MayRead, 0), api.ErrMapped)
	wantMap(t, p, 6, entry(1, api.MayNone, 0), api.ErrFrame)
	wantProtect(t, p, 5, api.MayWrite, api.MayRead, api.OK)
	wantGet(t, p, 5, entry(1, api.MayWrite, 0), true)
	wantFree(t, p, 4, 2, false, api.OK)
	wantFree(t, p, 65535, 2, false, api.ErrRange)
	wantNext(t, p, 4, 2, 6, true)
	wantUnmap(t, p, 6, api.Entry{}, api.ErrNone)
	wantMap(t, p, 1, entry(64, api.MayNone, 1), api.ErrArg)
}

// P8.1
func TestNew(t *testing.T) {
	p, q := page.New(), page.New()
	check(t, p, &facts{})
	wantMap(t, p, 3, entry(2, api.MayRead, 1), api.OK)
	check(t, q, &facts{})
	wantMap(t, q, 4, entry(2, api.MayRead, 1), api.OK)
	wantNext(t, page.New(), 0, api.MaxPages, 0, true)
	wantFree(t, page.New(), 0, api.MaxPages, true, api.OK)
}

// P8.1: each owner, and nobody; all that may be done
func TestMapOfEachOwner(t *testing.T) {
	p, m := page.New(), map[int]api.Entry{}
	at := 0
	for owner := -1; owner < owners; owner++ {
		for _, may := range mays {
			m[at*13] = entry(owner, may, 1000-at)
			wantMap(t, p, at*13, m[at*13], api.OK)
			at++
		}
	}
	check(t, p, factsOf(m))
}

// P8.1: frames have no greatest one; pages have
func TestMapOfFramesAndPages(t *testing.T) {
	m := map[int]api.Entry{}
	frames := []int{0, 1, 255, 256, 257, 16383, 16384, 16385, 65535, 65536, 1 << 31, 1 << 32, 1<<32 + 1, math.MaxInt - 1, math.MaxInt}
	for i, x := range []int{0, 1, 2, 255, 256, 257, 4096, 16384, 32767, 32768, 65280, 65281, 65533, 65534, 65535} {
		m[x] = entry(i, api.MayRead, frames[i])
	}
	p := tabled(t, m)
	check(t, p, factsOf(m))
	for x, n := range m {
		wantMap(t, p, 77, entry(5, api.MayWrite, n.Frame), api.ErrFrame)
		wantMap(t, p, x, entry(5, api.MayWrite, 2), api.ErrMapped)
	}
	check(t, p, factsOf(m))
}

// P8.1: entries that may not be are refused ahead of all else, and change nothing
func TestEntriesThatMayNotBe(t *testing.T) {
	p := tabled(t, some())
	refused := func(n api.Entry) {
		t.Helper()
		for _, x := range []int{1, 0, 5, 65535, 65536, -1, math.MaxInt, math.MinInt} {
			wantMap(t, p, x, n, api.ErrArg)
		}
	}
	for _, owner := range noOwners {
		refused(entry(owner, api.MayRead, 50))
		refused(entry(owner, api.MayNone, 0))
	}
	for _, may := range noMays {
		refused(entry(1, may, 50))
		refused(entry(api.Nobody, may, 0))
		for _, x := range append([]int{0, 1, 5, 65535}, noPages...) {
			wantProtect(t, p, x, may, 0, api.ErrArg)
		}
	}
	for _, frame := range noFrames {
		refused(entry(1, api.MayRead, frame))
	}
	refused(entry(64, 3, -1))
	check(t, p, factsOf(some()))
}

// P8.1, P8.2: pages that there are not are refused ahead of what is mapped, and of frames
func TestPagesThatThereAreNot(t *testing.T) {
	p := tabled(t, some())
	for _, x := range noPages {
		wantMap(t, p, x, entry(1, api.MayRead, 50), api.ErrRange)
		wantMap(t, p, x, entry(1, api.MayRead, 0), api.ErrRange)
		wantUnmap(t, p, x, api.Entry{}, api.ErrRange)
		for _, may := range mays {
			wantProtect(t, p, x, may, 0, api.ErrRange)
		}
		wantGet(t, p, x, api.Entry{}, false)
	}
	check(t, p, factsOf(some()))
}

// P8.1: a page that is mapped is told ahead of a frame that another one has, and keeps its entry
func TestMapOfMappedPages(t *testing.T) {
	p := tabled(t, some())
	for x, was := range some() {
		for _, n := range []api.Entry{was, entry(2, api.MayRead, 50), entry(2, api.MayRead, 0), entry(2, api.MayRead, 20000)} {
			wantMap(t, p, x, n, api.ErrMapped)
		}
		wantMap(t, p, 1, was, api.ErrFrame)
		wantMap(t, p, 65533, entry(62, api.MayRead, was.Frame), api.ErrFrame)
	}
	wantMap(t, p, 1, entry(2, api.MayRead, 50), api.OK)
	m := some()
	m[1] = entry(2, api.MayRead, 50)
	check(t, p, factsOf(m))
}

// P8.1: what was unmapped is mapped no more, and its frame goes to any page
func TestUnmap(t *testing.T) {
	for x, was := range some() {
		p, m := tabled(t, some()), some()
		delete(m, x)
		wantUnmap(t, p, x, was, api.OK)
		check(t, p, factsOf(m))
		wantUnmap(t, p, x, api.Entry{}, api.ErrNone)
		wantProtect(t, p, x, api.MayRead, 0, api.ErrNone)
		wantMap(t, p, 40, entry(9, api.MayRead, was.Frame), api.OK)
		wantMap(t, p, x, was, api.ErrFrame)
		m[40] = entry(9, api.MayRead, was.Frame)
		wantMap(t, p, x, entry(8, api.MayWrite, 51), api.OK)
		m[x] = entry(8, api.MayWrite, 51)
		check(t, p, factsOf(m))
	}
	p := page.New()
	for _, x := range []int{0, 1, 300, 65534, 65535} {
		wantUnmap(t, p, x, api.Entry{}, api.ErrNone)
	}
}

// P8.1: what a page's entry is when it is unmapped, also behind Protect
func TestUnmapTellsTheEntryAsItIs(t *testing.T) {
	p := tabled(t, some())
	wantProtect(t, p, 6, api.MayNone, api.MayWrite, api.OK)
	wantUnmap(t, p, 6, entry(1, api.MayNone, 0), api.OK)
	wantMap(t, p, 6, entry(2, api.MayRead, 0), api.OK)
	wantUnmap(t, p, 6, entry(2, api.MayRead, 0), api.OK)
}

// P8.1: each becomes each; owner and frame stay
func TestProtect(t *testing.T) {
	p, m := tabled(t, some()), some()
	for _, x := range slices.Sorted(maps.Keys(some())) {
		for _, first := range mays {
			for _, then := range mays {
				n := m[x]
				wantProtect(t, p, x, first, n.May, api.OK)
				wantProtect(t, p, x, then, first, api.OK)
				n.May = then
				m[x] = n
				wantGet(t, p, x, n, true)
			}
		}
		wantProtect(t, p, x, api.MayRead, api.MayWrite, api.OK)
		n := m[x]
		n.May = api.MayRead
		m[x] = n
		check(t, p, factsOf(m))
		wantMap(t, p, 1, n, api.ErrFrame)
	}
	for _, x := range []int{1, 4, 8, 299, 301, 65533} {
		wantProtect(t, p, x, api.MayRead, 0, api.ErrNone)
	}
	check(t, p, factsOf(m))
}

// P8.2: each run beside pages that are mapped, beside both ends
func TestRuns(t *testing.T) {
	p, f := tabled(t, some()), factsOf(some())
	manys := append([]int{1, 2, 3, 4, 5, 6, 290, 291, 292, 293, 65233, 65234, 65235, 65529, 65534, 65535, 65536, 65537}, noMany...)
	for _, from := range []int{-2, -1, 0, 1, 2, 3, 4, 5, 6, 7, 8, 9, 298, 299, 300, 301, 302, 65530, 65531, 65532, 65533, 65534, 65535, 65536, 65537} {
		for _, many := range manys {
			want, e := f.free(from, many)
			wantFree(t, p, from, many, want, e)
			if many < 300 || from > 65000 {
				at, is := f.next(from, many)
				wantNext(t, p, from, many, at, is)
			}
		}
	}
	wantNext(t, p, 0, 65233, 301, true)
	wantNext(t, p, 0, 65234, 0, false)
	wantNext(t, p, 301, 65233, 301, true)
	wantNext(t, p, 302, 65233, 0, false)
	check(t, p, f)
}

// P8.2: numbers that together go round, or that a narrower kind would cut
func TestRunsOfHugeNumbers(t *testing.T) {
	p := tabled(t, map[int]api.Entry{3: entry(1, api.MayRead, 0)})
	huge := []int{65537, 131072, 1 << 24, 1<<31 - 1, 1 << 31, 1 << 32, 1<<32 + 1, math.MaxInt - 65536, math.MaxInt - 1, math.MaxInt}
	for _, from := range append(append([]int{0, 1, 3, 4, 65535}, noPages...), huge...) {
		for _, many := range huge {
			wantFree(t, p, from, many, false, api.ErrRange)
			wantNext(t, p, from, many, 0, false)
		}
		for _, many := range noMany {
			wantFree(t, p, from, many, false, api.ErrArg)
			wantNext(t, p, from, many, 0, false)
		}
	}
	for _, from := range noPages {
		wantFree(t, p, from, 1, false, api.ErrRange)
		wantFree(t, p, from, 65536, false, api.ErrRange)
		if from < 0 {
			wantNext(t, p, from, 3, 0, true)
			wantNext(t, p, from, 4, 4, true)
			wantNext(t, p, from, 65532, 4, true)
			wantNext(t, p, from, 65533, 0, false)
		} else {
			wantNext(t, p, from, 1, 0, false)
		}
	}
}

// P8.2: a run that goes over the last page is none
func TestRunsBesideTheLastPage(t *testing.T) {
	p := page.New()
	for _, many := range []int{1, 2, 3, 100, 65535, 65536} {
		last := api.MaxPages - many
		wantFree(t, p, last, many, true, api.OK)
		wantFree(t, p, last+1, many, false, api.ErrRange)
		wantNext(t, p, last, many, last, true)
		wantNext(t, p, last+1, many, 0, false)
		q := tabled(t, map[int]api.Entry{last: entry(1, api.MayRead, 0)})
		wantFree(t, q, last, many, false, api.OK)
		wantNext(t, q, last, many, 0, false)
		q = tabled(t, map[int]api.Entry{65535: entry(1, api.MayRead, 0)})
		wantFree(t, q, last, many, false, api.OK)
		wantNext(t, q, last, many, 0, false)
	}
}

// P8.4: the run that is told is free, and no lesser one from there on is
func TestNextIsTheLeast(t *testing.T) {
	r := rand.New(rand.NewSource(84))
	for range 60 {
		p, f := page.New(), &facts{}
		low := r.Intn(2) * (api.MaxPages - 60)
		for frame := range 1 + r.Intn(40) {
			if at := low + r.Intn(60); f.put(at, entry(1, api.MayRead, frame)) == api.OK {
				wantMap(t, p, at, entry(1, api.MayRead, frame), api.OK)
			}
		}
		for range 40 {
			from, many := low+r.Intn(64)-2, 1+r.Intn(8)
			got, is := p.Next(from, many)
			want, wanted := 0, false
			for at := max(from, 0); at < low+80 && !wanted; at++ {
				if wanted, _ = f.free(at, many); wanted {
					want = at
				}
			}
			if got != want || is != wanted {
				t.Fatalf("Next(%d, %d): %d %v, want %d %v", from, many, got, is, want, wanted)
			}
			if is {
				wantFree(t, p, got, many, true, api.OK)
			}
		}
	}
}

// P8.3
func TestLenAndAll(t *testing.T) {
	p, f := page.New(), &facts{}
	n := 0
	for x, e := range some() {
		wantMap(t, p, x, e, api.OK)
		f.put(x, e)
		n++
		if p.Len() != n {
			t.Fatalf("Len: %d, want %d", p.Len(), n)
		}
	}
	wantMap(t, p, 6, entry(1, api.MayRead, 60), api.ErrMapped)
	wantProtect(t, p, 6, api.MayRead, api.MayWrite, api.OK)
	f.protect(6, api.MayRead)
	if p.Len() != 7 {
		t.Fatalf("Len: %d", p.Len())
	}
	want := []mapping{{0, entry(1, api.MayRead, 9)}, {6, entry(1, api.MayRead, 0)}, {65534, entry(1, api.MayNone, 1)}}
	if l := told(p.All(1)); !slices.Equal(l, want) {
		t.Errorf("All(1): %v", l)
	}
	want = []mapping{{5, entry(-1, api.MayNone, 3)}, {65535, entry(-1, api.MayWrite, 20000)}}
	if l := told(p.All(api.Nobody)); !slices.Equal(l, want) {
		t.Errorf("All(-1): %v", l)
	}
	for _, owner := range append([]int{2, 62}, noOwners...) {
		if l := told(p.All(owner)); len(l) != 0 {
			t.Errorf("All(%d): %v", owner, l)
		}
	}
	check(t, p, f)
	for x := range some() {
		n--
		if _, e := p.Unmap(x); e != api.OK || p.Len() != n {
			t.Fatalf("Unmap(%d): %v, Len %d, want %d", x, e, p.Len(), n)
		}
	}
	check(t, p, &facts{})
}

// P8.3
func TestAllIsAsItWasWhenCalled(t *testing.T) {
	p := tabled(t, some())
	all, want := p.All(1), told(p.All(1))
	wantUnmap(t, p, 0, want[0].x, api.OK)
	wantProtect(t, p, 6, api.MayNone, api.MayWrite, api.OK)
	wantUnmap(t, p, 65534, want[2].x, api.OK)
	wantMap(t, p, 65534, entry(2, api.MayRead, 70), api.OK)
	wantMap(t, p, 2, entry(1, api.MayRead, 71), api.OK)
	for range 2 {
		if l := told(all); !slices.Equal(l, want) {
			t.Errorf("All of before: %v", l)
		}
	}
	if l := told(p.All(1)); !slices.Equal(l, []mapping{{2, entry(1, api.MayRead, 71)}, {6, entry(1, api.MayNone, 0)}}) {
		t.Errorf("All: %v", l)
	}
}

// P8.3
func TestAllWhileItIsChanged(t *testing.T) {
	p := tabled(t, some())
	want := told(p.All(1))
	var l []mapping
	for at, x := range p.All(1) {
		l = append(l, mapping{at, x})
		for y := range some() {
			p.Unmap(y)
		}
		p.Map(at+1, entry(1, api.MayRead, at+1))
	}
	if !slices.Equal(l, want) {
		t.Errorf("All: %v, want %v", l, want)
	}
}

// P8.3
func TestAllLeftAtAnyTimeAndGoneOverAgain(t *testing.T) {
	p := page.New()
	for i := range 20 {
		wantMap(t, p, (i*7+3)%20*100, entry(i%2, api.MayRead, i), api.OK)
	}
	all, whole := p.All(1), told(p.All(1))
	if len(whole) != 10 || !slices.IsSortedFunc(whole, func(a, b mapping) int { return a.page - b.page }) {
		t.Fatalf("All: %v", whole)
	}
	for many := range len(whole) + 1 {
		var l []mapping
		all(func(at int, x api.Entry) bool {
			if len(l) > many {
				t.Fatalf("told on after it was left at %d", many)
			}
			l = append(l, mapping{at, x})
			return len(l) <= many
		})
		if !slices.Equal(l, whole[:min(many+1, len(whole))]) {
			t.Errorf("left behind %d: %v", many, l)
		}
		if l := told(all); !slices.Equal(l, whole) {
			t.Errorf("gone over again: %v", l)
		}
	}
}

// P8.3
func TestCopiesGoOnApart(t *testing.T) {
	p, f := tabled(t, some()), factsOf(some())
	change := func(p *page.Table, f *facts, x int, may api.May) {
		t.Helper()
		n, e := f.unmap(x)
		wantUnmap(t, p, x, n, e)
		wantMap(t, p, x+100, n, f.put(x+100, n))
		wantMap(t, p, x, entry(4, may, 90+x), f.put(x, entry(4, may, 90+x)))
		was, e := f.protect(300, may)
		wantProtect(t, p, 300, may, was, e)
	}
	q, g := p.Copy(), new(facts)
	*g = *f
	check(t, q, g)
	change(p, f, 6, api.MayRead)
	check(t, q, g)
	check(t, p, f)
	u, v := q.Copy(), new(facts)
	*v = *g
	change(q, g, 7, api.MayWrite)
	check(t, p, f)
	check(t, u, v)
	check(t, q, g)
	// Frames that pages have are had in copies too, and those of one table alone.
	for _, o := range []*page.Table{p, q, u, p.Copy()} {
		wantMap(t, o, 1, entry(1, api.MayRead, 3), api.ErrFrame)
	}
	wantMap(t, u, 1, entry(1, api.MayRead, 96), api.OK)
	wantMap(t, u, 2, entry(1, api.MayRead, 97), api.OK)
	wantMap(t, p, 2, entry(1, api.MayRead, 96), api.ErrFrame)
	wantMap(t, q, 2, entry(1, api.MayRead, 97), api.ErrFrame)
}

// P8.3: each thing that makes two unlike
func TestSame(t *testing.T) {
	of := func(does func(p *page.Table)) *page.Table {
		p := tabled(t, some())
		does(p)
		return p
	}
	to := func(x int, n api.Entry) func(p *page.Table) {
		return func(p *page.Table) {
			p.Unmap(x)
			wantMap(t, p, x, n, api.OK)
		}
	}
	l := []*page.Table{
		of(func(p *page.Table) {}),
		of(func(p *page.Table) { p.Unmap(65535) }),
		of(func(p *page.Table) { p.Unmap(0) }),
		of(func(p *page.Table) { p.Unmap(0); p.Map(1, entry(1, api.MayRead, 9)) }),
		of(func(p *page.Table) { p.Map(1, entry(1, api.MayRead, 50)) }),
		of(func(p *page.Table) { p.Map(1, entry(0, api.MayNone, 50)) }),
		of(func(p *page.Table) { p.Protect(5, api.MayRead) }),
		of(func(p *page.Table) { p.Protect(5, api.MayWrite) }),
		of(to(0, entry(2, api.MayRead, 9))),
		of(to(0, entry(1, api.MayRead, 10))),
		of(to(0, entry(1, api.MayWrite, 9))),
		page.New(), nil,
	}
	for i, a := range l {
		for k, b := range l {
			if page.Same(a, b) != (i == k) {
				t.Errorf("Same(%d, %d): %v", i, k, i != k)
			}
		}
		if !page.Same(a, a.Copy()) || !page.Same(a.Copy(), a) {
			t.Errorf("%d is not the same as its copy", i)
		}
	}
}

// P8.4: what is mapped and unmapped leaves the table as it was
func TestMappedAndUnmapped(t *testing.T) {
	p := tabled(t, some())
	was := p.Copy()
	var l []int
	for x := range 200 {
		if p.Map(x*3, entry(x%65-1, mays[x%3], 100+x)) == api.OK {
			l = append(l, x*3)
		}
	}
	if page.Same(p, was) {
		t.Error("Same of more pages")
	}
	rand.New(rand.NewSource(4)).Shuffle(len(l), func(i, k int) { l[i], l[k] = l[k], l[i] })
	for _, x := range l {
		wantUnmap(t, p, x, entry(x/3%65-1, mays[x/3%3], 100+x/3), api.OK)
	}
	if !page.Same(p, was) || !page.Same(was, p) {
		t.Error("not as it was")
	}
	check(t, p, factsOf(some()))
	// Also the frames are to be had as they were.
	for x := range 200 {
		wantMap(t, p, 1000, entry(1, api.MayRead, 100+x), api.OK)
		wantUnmap(t, p, 1000, entry(1, api.MayRead, 100+x), api.OK)
	}
	for _, n := range some() {
		wantMap(t, p, 1000, entry(1, api.MayRead, n.Frame), api.ErrFrame)
	}
}

// P8.3, P8.4: how it came to be so is not told
func TestSameByOtherWays(t *testing.T) {
	p, q := tabled(t, some()), page.New()
	l := slices.Sorted(maps.Keys(some()))
	slices.Reverse(l)
	for i, x := range l {
		wantMap(t, q, x, entry(7, api.MayNone, 500+i), api.OK)
	}
	for i, x := range l {
		wantUnmap(t, q, x, entry(7, api.MayNone, 500+i), api.OK)
		n := some()[x]
		may := n.May
		n.May = (may + 1) % 3
		wantMap(t, q, x, n, api.OK)
		wantProtect(t, q, x, may, n.May, api.OK)
	}
	if !page.Same(p, q) || !page.Same(q, p) {
		t.Error("not the same")
	}
	if !page.Same(page.New(), page.New()) {
		t.Error("those without entries are not the same")
	}
}

// P8.1 to P8.4: held against a plain list, call by call; no two pages have one frame
func TestCallsInAnyOrder(t *testing.T) {
	r := rand.New(rand.NewSource(1))
	for _, low := range []int{-2, 250, api.MaxPages - 30} {
		p, f := page.New(), &facts{}
		for i := range 2000 {
			x, n := low+r.Intn(32), entry(r.Intn(5)-2, api.May(r.Intn(16)/4), r.Intn(30)-1)
			switch r.Intn(6) {
			case 0, 1:
				wantMap(t, p, x, n, f.put(x, n))
			case 2:
				want, e := f.unmap(x)
				wantUnmap(t, p, x, want, e)
			case 3:
				want, e := f.protect(x, n.May)
				wantProtect(t, p, x, n.May, want, e)
			default:
				many := r.Intn(8) - 1
				want, e := f.free(x, many)
				wantFree(t, p, x, many, want, e)
			}
			if i%400 == 0 {
				check(t, p, f)
			}
		}
		check(t, p, f)
		seen := map[int]int{}
		for owner := -1; owner < owners; owner++ {
			for _, x := range told(p.All(owner)) {
				seen[x.x.Frame]++
			}
		}
		if len(seen) != p.Len() || p.Len() == 0 {
			t.Fatalf("%d frames of %d pages", len(seen), p.Len())
		}
	}
}

// Limits: MaxPages pages
func TestMostPages(t *testing.T) {
	p := page.New()
	for x := range api.MaxPages {
		wantMap(t, p, x, entry(x%65-1, mays[x%3], x^1), api.OK)
	}
	wantMap(t, p, api.MaxPages, entry(1, api.MayRead, api.MaxPages), api.ErrRange)
	wantMap(t, p, 0, entry(1, api.MayRead, api.MaxPages), api.ErrMapped)
	many := 0
	for owner := -1; owner < owners; owner++ {
		last := -1
		for x, n := range p.All(owner) {
			if x <= last || n != entry(x%65-1, mays[x%3], x^1) || n.Owner != owner {
				t.Fatalf("All(%d): %d %v behind %d", owner, x, n, last)
			}
			last = x
			many++
		}
	}
	if many != api.MaxPages || p.Len() != api.MaxPages {
		t.Fatalf("All of %d, Len %d", many, p.Len())
	}
	wantNext(t, p, 0, 1, 0, false)
	wantFree(t, p, 0, api.MaxPages, false, api.OK)
	if q := p.Copy(); !page.Same(p, q) {
		t.Error("Copy is not the same")
	}
	wantUnmap(t, p, 65535, entry(65535%65-1, mays[65535%3], 65534), api.OK)
	wantNext(t, p, -1, 1, 65535, true)
	wantNext(t, p, 0, 2, 0, false)
	wantMap(t, p, 65535, entry(1, api.MayRead, 65533), api.ErrFrame)
	wantMap(t, p, 65535, entry(1, api.MayRead, 65534), api.OK)
}

// P8.1 to P8.3; Rules: a table that is not there; a zero object is as a nil one
func TestNoTable(t *testing.T) {
	none := []*page.Table{nil, new(page.Table), {}, (*page.Table)(nil).Copy(), new(page.Table).Copy()}
	for i, p := range none {
		for _, n := range []int{0, 1, 63, 64, 65535, 65536, -1, math.MaxInt, math.MinInt} {
			wantMap(t, p, n, entry(n, api.May(n), n), api.ErrNil)
			wantMap(t, p, n, entry(1, api.MayRead, 0), api.ErrNil)
			wantUnmap(t, p, n, api.Entry{}, api.ErrNil)
			wantProtect(t, p, n, api.May(n), 0, api.ErrNil)
			wantProtect(t, p, n, api.MayRead, 0, api.ErrNil)
			wantGet(t, p, n, api.Entry{}, false)
			wantFree(t, p, n, n, false, api.ErrNil)
			wantFree(t, p, 0, n, false, api.ErrNil)
			wantFree(t, p, n, 1, false, api.ErrNil)
			wantNext(t, p, n, 1, 0, false)
			wantNext(t, p, 0, n, 0, false)
			if l := told(p.All(n)); len(l) != 0 {
				t.Errorf("%d: All(%d): %v", i, n, l)
			}
		}
		if p.Len() != 0 || p.Copy() != nil {
			t.Errorf("%d: Len %d, Copy %v", i, p.Len(), p.Copy())
		}
		for k, o := range none {
			if !page.Same(p, o) {
				t.Errorf("Same(%d, %d): false", i, k)
			}
		}
		for _, o := range []*page.Table{page.New(), tabled(t, some())} {
			if page.Same(p, o) || page.Same(o, p) {
				t.Errorf("%d is the same as one that is there", i)
			}
		}
	}
}

// P8.1 to P8.3: a table without entries is there, also when its last one went
func TestTableWithoutEntries(t *testing.T) {
	p := tabled(t, map[int]api.Entry{3: entry(1, api.MayRead, 0)})
	wantUnmap(t, p, 3, entry(1, api.MayRead, 0), api.OK)
	for _, p := range []*page.Table{p, p.Copy(), page.New(), page.New().Copy()} {
		if p.Copy() == nil || p.Len() != 0 || !page.Same(p, page.New()) || page.Same(p, nil) {
			t.Errorf("Copy %v, Len %d", p.Copy(), p.Len())
		}
		wantUnmap(t, p, 0, api.Entry{}, api.ErrNone)
		wantProtect(t, p, 0, api.MayRead, 0, api.ErrNone)
		wantFree(t, p, 0, api.MaxPages, true, api.OK)
		wantNext(t, p, 0, api.MaxPages, 0, true)
		wantMap(t, p, 0, entry(1, api.MayRead, 0), api.OK)
	}
}
