package vmem_test

import (
	"bytes"
	"maps"
	"math"
	"math/rand"
	"slices"
	"testing"

	"pinfold/api"
	"pinfold/vmem"
)

// owners is how many owners and payers there may be, beside nobody.
const owners = 64

// mays are what may be done.
var mays = []api.May{api.MayNone, api.MayRead, api.MayWrite}

// noOwners are those just beyond both ends, and those that a narrower kind would cut to one that may be.
var noOwners = []int{-2, -3, -63, -64, -65, -255, -256, -257, 64, 65, 127, 128, 255, 256, 257, 65535, 65536, 1 << 31, 1<<32 - 1, 1 << 32, 1<<32 + 1, math.MaxInt, math.MinInt32, math.MinInt, math.MinInt + 1}

// noPayers are those and nobody, who pays for nothing.
var noPayers = append([]int{api.Nobody}, noOwners...)

// noMays are those just beyond both ends, and those that a narrower kind would cut to one that may be.
var noMays = []api.May{-1, -2, 3, 4, 255, 256, 257, 258, -254, -255, -256, 65536, 1 << 31, 1 << 32, 1<<32 + 1, 2 - 1<<32, math.MaxInt, math.MinInt, math.MinInt + 2}

// noPages are pages that there are not.
var noPages = []int{-1, -2, -255, -256, -65535, -65536, -65537, -1 << 31, 1 - 1<<32, -1 << 32, math.MinInt, math.MinInt + 1, math.MinInt + 65536, 65536, 65537, 65541, 131072, 1 << 24, 1 << 31, 1 << 32, 1<<32 + 5, math.MaxInt - 65535, math.MaxInt - 1, math.MaxInt}

// noMany are numbers of bytes that no reach has.
var noMany = []int{0, -1, -2, -255, -256, -65536, 1 - 1<<24, -1 << 24, -1 << 31, 1 - 1<<32, -1 << 32, math.MinInt, math.MinInt + 1, math.MinInt + 1<<24, 1<<24 + 1, 1<<24 + 256, 1<<25 + 1, 1 << 31, 1<<32 - 1, 1 << 32, 1<<32 + 1, math.MaxInt - 1<<24, math.MaxInt - 1, math.MaxInt}

// noAddresses are addresses that there are not.
var noAddresses = []uint32{1 << 24, 1<<24 + 1, 1<<24 + 768, 1 << 25, 1<<31 - 1, 1 << 31, 1<<31 + 768, 1<<32 - 1<<24, 1<<32 - 768, 1<<32 - 256, 1<<32 - 2, 1<<32 - 1}

// bare is a memory of so many frames, none of them reserved.
func bare(t *testing.T, frames int) *vmem.Memory {
	t.Helper()
	m, e := vmem.New(frames)
	if m == nil || e != api.OK {
		t.Fatalf("New(%d): %v %v", frames, m, e)
	}
	return m
}

// made is one all of whose frames the payer 1 has reserved.
func made(t *testing.T, frames int) *vmem.Memory {
	t.Helper()
	m := bare(t, frames)
	wantReserve(t, m, 1, frames, api.OK)
	return m
}

func wantReserve(t *testing.T, m *vmem.Memory, payer, many int, e api.Errno) {
	t.Helper()
	if f := m.Reserve(payer, many); f != e {
		t.Fatalf("Reserve(%d, %d): %v, want %v", payer, many, f, e)
	}
}

func wantMap(t *testing.T, m *vmem.Memory, page, owner, payer int, may api.May, e api.Errno) {
	t.Helper()
	if f := m.Map(page, owner, payer, may); f != e {
		t.Fatalf("Map(%d, %d, %d, %d): %v, want %v", page, owner, payer, may, f, e)
	}
}

func wantUnmap(t *testing.T, m *vmem.Memory, page int, e api.Errno) {
	t.Helper()
	if f := m.Unmap(page); f != e {
		t.Fatalf("Unmap(%d): %v, want %v", page, f, e)
	}
}

func wantProtect(t *testing.T, m *vmem.Memory, page int, may, want api.May, e api.Errno) {
	t.Helper()
	if was, f := m.Protect(page, may); was != want || f != e {
		t.Fatalf("Protect(%d, %d): %v %v, want %v %v", page, may, was, f, want, e)
	}
}

func wantGet(t *testing.T, m *vmem.Memory, page int, want api.Entry, is bool) {
	t.Helper()
	if x, got := m.Get(page); x != want || got != is {
		t.Fatalf("Get(%d): %v %v, want %v %v", page, x, got, want, is)
	}
}

func wantLoad(t *testing.T, m *vmem.Memory, owner int, at uint32, many int, want string, e api.Errno) {
	t.Helper()
	if b, f := m.Load(owner, at, many); string(b) != want || f != e {
		t.Fatalf("Load(%d, %d, %d): %x %v, want %x %v", owner, at, many, b, f, want, e)
	}
}

func wantStore(t *testing.T, m *vmem.Memory, owner int, at uint32, b string, e api.Errno) {
	t.Helper()
	if f := m.Store(owner, at, []byte(b)); f != e {
		t.Fatalf("Store(%d, %d, %d bytes): %v, want %v", owner, at, len(b), f, e)
	}
}

func wantPeek(t *testing.T, m *vmem.Memory, at uint32, many int, want string, e api.Errno) {
	t.Helper()
	if b, f := m.Peek(at, many); string(b) != want || f != e {
		t.Fatalf("Peek(%d, %d): %x %v, want %x %v", at, many, b, f, want, e)
	}
}

func wantPoke(t *testing.T, m *vmem.Memory, at uint32, b string, e api.Errno) {
	t.Helper()
	if f := m.Poke(at, []byte(b)); f != e {
		t.Fatalf("Poke(%d, %d bytes): %v, want %v", at, len(b), f, e)
	}
}

func wantLeft(t *testing.T, m *vmem.Memory, payer, want int) {
	t.Helper()
	if n := m.Left(payer); n != want {
		t.Fatalf("Left(%d): %d, want %d", payer, n, want)
	}
}

func wantPages(t *testing.T, m *vmem.Memory, owner int, want ...int) {
	t.Helper()
	if l := slices.Collect(m.Pages(owner)); !slices.Equal(l, want) {
		t.Fatalf("Pages(%d): %v, want %v", owner, l, want)
	}
}

// wantSame asks for the same memory, whoever is named first.
func wantSame(t *testing.T, a, b *vmem.Memory, want bool) {
	t.Helper()
	if vmem.Same(a, b) != want || vmem.Same(b, a) != want {
		t.Fatalf("Same: %v and %v, want %v", vmem.Same(a, b), vmem.Same(b, a), want)
	}
}

// noughts are so many bytes of 0.
func noughts(many int) string { return string(make([]byte, many)) }

// others are so many bytes, none of them 0, that begin with some byte.
func others(first byte, many int) string {
	b := make([]byte, many)
	for i := range b {
		b[i] = byte((int(first)+i*7)%255 + 1)
	}
	return string(b)
}

// mapped is what is known of a page.
type mapped struct {
	x     api.Entry
	payer int
	bytes [api.PageSize]byte
}

// facts are what a memory is, by plain lists.
type facts struct {
	// frames are the payers of the frames, -1 of a free one.
	frames   []int
	reserved [owners]int
	pages    map[int]*mapped
}

func factsOf(frames int) *facts {
	return &facts{frames: slices.Repeat([]int{-1}, frames), pages: map[int]*mapped{}}
}

func (f *facts) copied() *facts {
	g := &facts{slices.Clone(f.frames), f.reserved, map[int]*mapped{}}
	for at, x := range f.pages {
		y := *x
		g.pages[at] = &y
	}
	return g
}

func (f *facts) taken(payer int) int {
	n := 0
	for _, x := range f.frames {
		if x == payer {
			n++
		}
	}
	return n
}

func (f *facts) room() int {
	n := len(f.frames)
	for _, x := range f.reserved {
		n -= x
	}
	return n
}

func (f *facts) reserve(payer, many int) api.Errno {
	switch {
	case payer < 0 || payer >= owners || many < 0:
		return api.ErrArg
	case many < f.taken(payer):
		return api.ErrHeld
	case many-f.reserved[payer] > f.room():
		return api.ErrFrames
	}
	f.reserved[payer] = many
	return api.OK
}

func (f *facts) mapAt(page, owner, payer int, may api.May) api.Errno {
	switch {
	case owner < -1 || owner >= owners || payer < 0 || payer >= owners || may < 0 || may > 2:
		return api.ErrArg
	case page < 0 || page >= api.MaxPages:
		return api.ErrRange
	case f.pages[page] != nil:
		return api.ErrMapped
	case f.taken(payer) == f.reserved[payer]:
		return api.ErrLeft
	}
	frame := slices.Index(f.frames, -1)
	f.frames[frame] = payer
	f.pages[page] = &mapped{x: api.Entry{Owner: owner, May: may, Frame: frame}, payer: payer}
	return api.OK
}

func (f *facts) such(page int) api.Errno {
	switch {
	case page < 0 || page >= api.MaxPages:
		return api.ErrRange
	case f.pages[page] == nil:
		return api.ErrNone
	}
	return api.OK
}

func (f *facts) unmap(page int) api.Errno {
	e := f.such(page)
	if e == api.OK {
		f.frames[f.pages[page].x.Frame] = -1
		delete(f.pages, page)
	}
	return e
}

func (f *facts) protect(page int, may api.May) (api.May, api.Errno) {
	e := f.such(page)
	if may < 0 || may > 2 {
		e = api.ErrArg
	}
	if e != api.OK {
		return 0, e
	}
	was := f.pages[page].x.May
	f.pages[page].x.May = may
	return was, api.OK
}

// reach tells the error of a reach; may is -1 of nobody's hand.
func (f *facts) reach(owner int, at uint32, many int, may api.May) api.Errno {
	switch {
	case owner < -1 || owner >= owners || many < 1 || many > api.Addresses:
		return api.ErrArg
	case uint64(at)+uint64(many) > api.Addresses:
		return api.ErrRange
	}
	for i := range many {
		x := f.pages[(int(at)+i)/api.PageSize]
		if x == nil || may >= 0 && (x.x.Owner != owner || owner == -1 || x.x.May < may) {
			return api.ErrFault
		}
	}
	return api.OK
}

// get and put do byte by byte what is known to be reached.
func (f *facts) get(at uint32, many int) string {
	b := make([]byte, many)
	for i := range b {
		b[i] = f.pages[(int(at)+i)/api.PageSize].bytes[(int(at)+i)%api.PageSize]
	}
	return string(b)
}

func (f *facts) put(at uint32, b string) {
	for i := range len(b) {
		f.pages[(int(at)+i)/api.PageSize].bytes[(int(at)+i)%api.PageSize] = b[i]
	}
}

// check holds all that a memory tells against the facts.
func check(t *testing.T, m *vmem.Memory, f *facts) {
	t.Helper()
	owned := map[int][]int{}
	for _, at := range slices.Sorted(maps.Keys(f.pages)) {
		x := f.pages[at]
		owned[x.x.Owner] = append(owned[x.x.Owner], at)
		wantGet(t, m, at, x.x, true)
		wantPeek(t, m, uint32(at*api.PageSize), api.PageSize, string(x.bytes[:]), api.OK)
	}
	for at := range api.MaxPages {
		if f.pages[at] == nil {
			wantGet(t, m, at, api.Entry{}, false)
		}
	}
	for owner := -3; owner <= owners+1; owner++ {
		wantPages(t, m, owner, owned[owner]...)
		left := 0
		if owner >= 0 && owner < owners {
			left = f.reserved[owner] - f.taken(owner)
		}
		wantLeft(t, m, owner, left)
	}
	if m.Room() != f.room() {
		t.Fatalf("Room: %d, want %d", m.Room(), f.room())
	}
}

// some is a memory of 12 frames and what is known of it: pages of several owners and payers, with bytes, some of them beside each other, by frames in no order.
func some(t *testing.T) (*vmem.Memory, *facts) {
	t.Helper()
	m, f := bare(t, 12), factsOf(12)
	for payer, many := range []int{1, 6, 3} {
		wantReserve(t, m, payer, many, f.reserve(payer, many))
	}
	for _, x := range []struct {
		page, owner, payer int
		may                api.May
	}{
		{4, 1, 1, api.MayWrite}, {65535, 1, 1, api.MayWrite}, {3, 1, 2, api.MayWrite}, {6, 2, 1, api.MayWrite},
		{5, 1, 1, api.MayRead}, {0, 0, 0, api.MayWrite}, {7, api.Nobody, 2, api.MayWrite}, {2, 1, 1, api.MayNone},
	} {
		wantMap(t, m, x.page, x.owner, x.payer, x.may, f.mapAt(x.page, x.owner, x.payer, x.may))
		b := others(byte(x.page), api.PageSize)
		wantPoke(t, m, uint32(x.page*api.PageSize), b, api.OK)
		f.put(uint32(x.page*api.PageSize), b)
	}
	return m, f
}

// P9.1, P9.2, the examples
func TestExamples(t *testing.T) {
	m := bare(t, 4)
	wantReserve(t, m, 1, 2, api.OK)
	wantMap(t, m, 3, 1, 1, api.MayWrite, api.OK)
	wantStore(t, m, 1, 768, "ab", api.OK)
	wantLoad(t, m, 1, 769, 2, "b\x00", api.OK)
	wantLoad(t, m, 2, 768, 1, "", api.ErrFault)
	wantStore(t, m, 1, 1023, "xy", api.ErrFault)
	wantLoad(t, m, 1, 1023, 1, "\x00", api.OK)
	wantPeek(t, m, 768, 2, "ab", api.OK)
	wantLoad(t, m, 1, 768, 0, "", api.ErrArg)
	wantLoad(t, m, 1, 1<<24-1, 2, "", api.ErrRange)
}

// P9.1
func TestNew(t *testing.T) {
	for _, frames := range []int{0, 1, 2, 400, 16383, 16384} {
		m := bare(t, frames)
		check(t, m, factsOf(frames))
		wantReserve(t, m, 1, frames+1, api.ErrFrames)
		wantReserve(t, m, 1, frames, api.OK)
	}
	for _, frames := range []int{-1, -2, -256, -65536, -1 << 31, 1 - 1<<32, math.MinInt, math.MinInt + 3, 16385, 16386, 32768, 65536, 65539, 1 << 31, 1 << 32, 1<<32 + 3, math.MaxInt} {
		if m, e := vmem.New(frames); m != nil || e != api.ErrArg {
			t.Errorf("New(%d): %v %v", frames, m, e)
		}
	}
	a, b := made(t, 3), made(t, 3)
	wantMap(t, a, 5, 1, 1, api.MayWrite, api.OK)
	wantGet(t, b, 5, api.Entry{}, false)
	wantLeft(t, b, 1, 3)
}

// P9.1: as layer 7's
func TestReserve(t *testing.T) {
	m, f := some(t)
	for _, payer := range noPayers {
		for _, many := range []int{-1, 0, 1, 13, math.MaxInt} {
			wantReserve(t, m, payer, many, api.ErrArg)
		}
	}
	for _, many := range []int{-1, -2, -256, 1 - 1<<32, math.MinInt, math.MinInt + 2} {
		wantReserve(t, m, 1, many, api.ErrArg)
		wantReserve(t, m, 9, many, api.ErrArg)
	}
	wantReserve(t, m, 1, 4, api.ErrHeld)
	wantReserve(t, m, 1, 0, api.ErrHeld)
	wantReserve(t, m, 2, 1, api.ErrHeld)
	wantReserve(t, m, 0, 0, api.ErrHeld)
	wantReserve(t, m, 1, 9, api.ErrFrames)
	wantReserve(t, m, 63, 3, api.ErrFrames)
	wantReserve(t, m, 63, math.MaxInt, api.ErrFrames)
	check(t, m, f)
	for _, x := range [][2]int{{63, 2}, {1, 5}, {63, 3}, {0, 1}, {63, 0}, {1, 9}, {2, 2}, {5, 1}} {
		wantReserve(t, m, x[0], x[1], f.reserve(x[0], x[1]))
		check(t, m, f)
	}
}

// P9.1: each owner, nobody too, each payer, all that may be done; the least free frame is taken, for the payer
func TestMapOfEachOwnerAndPayer(t *testing.T) {
	m, f := bare(t, 4*owners), factsOf(4*owners)
	for payer := range owners {
		wantReserve(t, m, payer, 4, f.reserve(payer, 4))
	}
	at := 0
	for owner := -1; owner < owners; owner++ {
		for _, may := range mays {
			page, payer := (at*331)%api.MaxPages, (at*5)%owners
			wantMap(t, m, page, owner, payer, may, api.OK)
			if e := f.mapAt(page, owner, payer, may); e != api.OK {
				t.Fatalf("facts: %v", e)
			}
			at++
		}
	}
	check(t, m, f)
}

// P9.1: what may not be is refused ahead of all else, and changes nothing
func TestMapOfWhatMayNotBe(t *testing.T) {
	m, f := some(t)
	was := m.Copy()
	for _, page := range []int{1, 3, 0, 65535, 65536, -1, math.MaxInt, math.MinInt} {
		// Payer 0 has nothing left, payer 1 has.
		for _, payer := range []int{0, 1} {
			for _, owner := range noOwners {
				wantMap(t, m, page, owner, payer, api.MayRead, api.ErrArg)
			}
			for _, may := range noMays {
				wantMap(t, m, page, 1, payer, may, api.ErrArg)
				wantMap(t, m, page, api.Nobody, payer, may, api.ErrArg)
			}
		}
		for _, payer := range noPayers {
			wantMap(t, m, page, 1, payer, api.MayRead, api.ErrArg)
			wantMap(t, m, page, api.Nobody, payer, api.MayRead, api.ErrArg)
			wantMap(t, m, page, 64, payer, 3, api.ErrArg)
		}
	}
	wantSame(t, m, was, true)
	check(t, m, f)
}

// P9.1: the order of what is refused else; nothing is taken
func TestMapThatIsRefused(t *testing.T) {
	m, f := some(t)
	was := m.Copy()
	for _, payer := range []int{0, 1, 2, 63} {
		for _, page := range noPages {
			wantMap(t, m, page, 1, payer, api.MayRead, api.ErrRange)
		}
		for page := range f.pages {
			wantMap(t, m, page, 1, payer, api.MayRead, api.ErrMapped)
			wantMap(t, m, page, api.Nobody, payer, api.MayNone, api.ErrMapped)
		}
	}
	for _, page := range []int{1, 8, 65534} {
		wantMap(t, m, page, 1, 0, api.MayRead, api.ErrLeft)
		wantMap(t, m, page, 1, 63, api.MayRead, api.ErrLeft)
	}
	wantSame(t, m, was, true)
	check(t, m, f)
	// What was left is left: one of payer 1, one of payer 2.
	wantMap(t, m, 8, 1, 1, api.MayRead, f.mapAt(8, 1, 1, api.MayRead))
	wantMap(t, m, 9, 1, 1, api.MayRead, api.ErrLeft)
	wantMap(t, m, 9, 1, 2, api.MayRead, f.mapAt(9, 1, 2, api.MayRead))
	wantMap(t, m, 10, 1, 2, api.MayRead, api.ErrLeft)
	check(t, m, f)
}

// P9.1: the frame is given to its payer, and no other page is touched
func TestUnmap(t *testing.T) {
	m, f := some(t)
	for _, page := range noPages {
		wantUnmap(t, m, page, api.ErrRange)
	}
	for _, page := range []int{1, 8, 255, 256, 65534} {
		wantUnmap(t, m, page, api.ErrNone)
	}
	check(t, m, f)
	for _, page := range []int{6, 65535, 7, 2, 0, 4, 3, 5} {
		wantUnmap(t, m, page, f.unmap(page))
		wantUnmap(t, m, page, api.ErrNone)
		check(t, m, f)
	}
	wantReserve(t, m, 1, 0, api.OK)
	wantReserve(t, m, 5, 8, api.OK)
}

// P9.1: a page that is mapped is all 0, whoever wrote into its frame before
func TestMappedIsAllNought(t *testing.T) {
	m, f := some(t)
	for _, page := range []int{4, 7, 65535} {
		wantUnmap(t, m, page, f.unmap(page))
	}
	for _, x := range []struct{ page, owner, payer int }{{9, 2, 1}, {4, 1, 2}, {10, api.Nobody, 1}, {65534, 0, 1}} {
		wantMap(t, m, x.page, x.owner, x.payer, api.MayWrite, f.mapAt(x.page, x.owner, x.payer, api.MayWrite))
		wantPeek(t, m, uint32(x.page*api.PageSize), api.PageSize, noughts(api.PageSize), api.OK)
		check(t, m, f)
	}
	wantLoad(t, m, 2, 9*api.PageSize, api.PageSize, noughts(api.PageSize), api.OK)
}

// P9.1: as layer 8's
func TestProtectAndGet(t *testing.T) {
	m, f := some(t)
	for _, page := range append([]int{1, 3, 65535}, noPages...) {
		for _, may := range noMays {
			wantProtect(t, m, page, may, 0, api.ErrArg)
		}
	}
	for _, may := range mays {
		for _, page := range noPages {
			wantProtect(t, m, page, may, 0, api.ErrRange)
			wantGet(t, m, page, api.Entry{}, false)
		}
		for _, page := range []int{1, 8, 65534} {
			wantProtect(t, m, page, may, 0, api.ErrNone)
		}
	}
	check(t, m, f)
	for _, page := range slices.Sorted(maps.Keys(f.pages)) {
		for _, may := range []api.May{2, 1, 0, 0, 2, 1, 1} {
			was, _ := f.protect(page, may)
			wantProtect(t, m, page, may, was, api.OK)
			wantGet(t, m, page, f.pages[page].x, true)
		}
	}
	check(t, m, f)
}

// P9.2, P9.4: what may be done, by whom
func TestWhoReaches(t *testing.T) {
	for _, of := range []int{api.Nobody, 0, 1, 2, 62, 63} {
		for _, may := range mays {
			m := made(t, 2)
			wantMap(t, m, 9, of, 1, may, api.OK)
			wantMap(t, m, 11, of, 1, may, api.OK)
			wantPoke(t, m, 9*256, "abc", api.OK)
			for owner := -1; owner < owners; owner++ {
				loads, stores, got := api.ErrFault, api.ErrFault, ""
				if owner == of && of != api.Nobody && may >= api.MayRead {
					loads, got = api.OK, "bc"
				}
				if owner == of && of != api.Nobody && may == api.MayWrite {
					stores = api.OK
				}
				wantLoad(t, m, owner, 9*256+1, 2, got, loads)
				wantStore(t, m, owner, 9*256+1, "xyz", stores)
				want := "abc\x00"
				if stores == api.OK {
					want = "axyz"
				}
				wantPeek(t, m, 9*256, 4, want, api.OK)
				wantPoke(t, m, 9*256, "abc\x00", api.OK)
				wantLoad(t, m, owner, 10*256, 1, "", api.ErrFault)
				wantStore(t, m, owner, 10*256, "a", api.ErrFault)
			}
		}
	}
}

// P9.2, P9.4: nobody's hand reaches each page that is mapped, and no other
func TestNobodysHand(t *testing.T) {
	m := made(t, 12)
	page := 100
	for _, owner := range []int{api.Nobody, 0, 1, 63} {
		for _, may := range mays {
			wantMap(t, m, page, owner, 1, may, api.OK)
			page++
		}
	}
	all := others(3, 12*256)
	wantPoke(t, m, 100*256, all, api.OK)
	wantPeek(t, m, 100*256, len(all), all, api.OK)
	for _, at := range []uint32{100*256 - 1, 0, 99 * 256, 112 * 256, 112*256 - 1, 1<<24 - 2} {
		wantPeek(t, m, at, 2, "", api.ErrFault)
		wantPoke(t, m, at, "xy", api.ErrFault)
	}
	wantPeek(t, m, 100*256, 12*256+1, "", api.ErrFault)
	wantPoke(t, m, 100*256, all[1:]+"xy", api.ErrFault)
	wantPeek(t, m, 100*256-1, 12*256+1, "", api.ErrFault)
	wantPoke(t, m, 100*256-1, "x"+all[1:]+"x", api.ErrFault)
	wantPeek(t, m, 100*256, len(all), all, api.OK)
}

// P9.2: the errors of a reach, in their order; nothing is written beside one
func TestReachesThatMayNotBe(t *testing.T) {
	m, _ := some(t)
	was := m.Copy()
	ats := append([]uint32{0, 1, 768, 1023, 256, 1<<24 - 256, 1<<24 - 1}, noAddresses...)
	long := noughts(1<<24 + 1)
	for _, at := range ats {
		for _, many := range noMany {
			for _, owner := range []int{api.Nobody, 0, 1, 63, 64} {
				wantLoad(t, m, owner, at, many, "", api.ErrArg)
			}
			wantPeek(t, m, at, many, "", api.ErrArg)
		}
		for _, owner := range noOwners {
			for _, many := range []int{0, -1, 1, 2, 256, 1 << 24, 1<<24 + 1} {
				wantLoad(t, m, owner, at, many, "", api.ErrArg)
			}
			wantStore(t, m, owner, at, "x", api.ErrArg)
		}
		for _, b := range [][]byte{nil, {}, make([]byte, 0, 9), []byte(long)} {
			if e := m.Store(1, at, b); e != api.ErrArg {
				t.Fatalf("Store(1, %d, %d bytes): %v", at, len(b), e)
			}
			if e := m.Poke(at, b); e != api.ErrArg {
				t.Fatalf("Poke(%d, %d bytes): %v", at, len(b), e)
			}
		}
	}
	wantSame(t, m, was, true)
}

// P9.2: addresses that there are not are refused ahead of pages that are not reached
func TestReachesOverTheLastAddress(t *testing.T) {
	m, _ := some(t)
	was := m.Copy()
	refused := func(at uint32, many int) {
		t.Helper()
		for _, owner := range []int{api.Nobody, 0, 1, 2, 63} {
			wantLoad(t, m, owner, at, many, "", api.ErrRange)
			wantStore(t, m, owner, at, noughts(many), api.ErrRange)
		}
		wantPeek(t, m, at, many, "", api.ErrRange)
		wantPoke(t, m, at, noughts(many), api.ErrRange)
	}
	for _, at := range noAddresses {
		for _, many := range []int{1, 2, 255, 256, 257, 769} {
			refused(at, many)
		}
	}
	for _, at := range []uint32{1 << 24, 1<<32 - 1, 1<<32 - 1<<24, 1<<24 - 1, 1} {
		refused(at, 1<<24)
	}
	for _, many := range []int{1, 2, 255, 256, 257, 1000} {
		refused(uint32(1<<24-many+1), many)
	}
	wantSame(t, m, was, true)
	wantLoad(t, m, 1, 0, 1<<24, "", api.ErrFault)
	wantPeek(t, m, 0, 1<<24, "", api.ErrFault)
	wantStore(t, m, 1, 0, noughts(1<<24), api.ErrFault)
	wantPoke(t, m, 0, noughts(1<<24), api.ErrFault)
	wantSame(t, m, was, true)
}

// P9.2: the first address and the last one
func TestReachesBesideBothEnds(t *testing.T) {
	m := made(t, 3)
	for _, page := range []int{65535, 0, 65534} {
		wantMap(t, m, page, 1, 1, api.MayWrite, api.OK)
	}
	wantStore(t, m, 1, 0, "first", api.OK)
	wantStore(t, m, 1, 1<<24-1, "z", api.OK)
	wantStore(t, m, 1, 1<<24-258, others(1, 257), api.OK)
	wantLoad(t, m, 1, 0, 6, "first\x00", api.OK)
	wantLoad(t, m, 1, 1<<24-258, 258, others(1, 257)+"z", api.OK)
	wantPeek(t, m, 1<<24-1, 1, "z", api.OK)
	wantPoke(t, m, 1<<24-2, "yz", api.OK)
	wantLoad(t, m, 1, 1<<24-2, 2, "yz", api.OK)
	wantLoad(t, m, 1, 1<<24-512, 512, noughts(254)+others(1, 257)[:256]+"yz", api.OK)
}

// P9.2, P9.4: reaches over several pages, whose frames lie in another order
func TestReachesOverPages(t *testing.T) {
	m, f := made(t, 6), factsOf(6)
	f.reserve(1, 6)
	for _, page := range []int{13, 10, 12, 11, 15, 14} {
		wantMap(t, m, page, 1, 1, api.MayWrite, f.mapAt(page, 1, 1, api.MayWrite))
	}
	n := 0
	for _, at := range []uint32{2560, 2561, 2815, 2816, 2817, 3000, 3071, 3072, 3328, 3500} {
		for _, many := range []int{1, 2, 254, 255, 256, 257, 258, 511, 512, 513, 596} {
			b := others(byte(n), many)
			wantStore(t, m, 1, at, b, api.OK)
			f.put(at, b)
			wantLoad(t, m, 1, at, many, b, api.OK)
			wantPeek(t, m, 2560, 6*256, f.get(2560, 6*256), api.OK)
			b = others(byte(n+50), many)
			wantPoke(t, m, at, b, api.OK)
			f.put(at, b)
			wantPeek(t, m, at, many, b, api.OK)
			wantLoad(t, m, 1, 2560, 6*256, f.get(2560, 6*256), api.OK)
			n++
		}
	}
	check(t, m, f)
}

// P9.2: a page in the midst, or at an end, that is not reached: nothing is written
func TestReachesOverAPageThatIsNotReached(t *testing.T) {
	spoil := []func(m *vmem.Memory, page int){
		func(m *vmem.Memory, page int) { m.Unmap(page) },
		func(m *vmem.Memory, page int) { m.Protect(page, api.MayNone) },
		func(m *vmem.Memory, page int) { m.Unmap(page); m.Map(page, 2, 1, api.MayWrite) },
		func(m *vmem.Memory, page int) { m.Unmap(page); m.Map(page, api.Nobody, 1, api.MayWrite) },
		func(m *vmem.Memory, page int) { m.Protect(page, api.MayRead) },
	}
	for i, does := range spoil {
		for page := 20; page < 24; page++ {
			m := made(t, 4)
			for at := 20; at < 24; at++ {
				wantMap(t, m, at, 1, 1, api.MayWrite, api.OK)
			}
			wantStore(t, m, 1, 20*256, others(1, 4*256), api.OK)
			does(m, page)
			was := m.Copy()
			wantStore(t, m, 1, 20*256+9, others(2, 4*256-18), api.ErrFault)
			if i == 0 {
				wantPoke(t, m, 20*256+9, others(2, 4*256-18), api.ErrFault)
				wantPeek(t, m, 20*256+9, 4*256-18, "", api.ErrFault)
			}
			if i < 4 {
				wantLoad(t, m, 1, 20*256+9, 4*256-18, "", api.ErrFault)
			} else {
				wantLoad(t, m, 1, 20*256+9, 4*256-18, others(1, 4*256)[9:4*256-9], api.OK)
			}
			wantSame(t, m, was, true)
			for at := 20; at < 24; at++ {
				if at != page {
					wantLoad(t, m, 1, uint32(at*256), 256, others(1, 4*256)[(at-20)*256:][:256], api.OK)
				}
			}
		}
	}
}

// P9.4: what is loaded is what was stored last, by whomever
func TestStoredLast(t *testing.T) {
	m := made(t, 1)
	wantMap(t, m, 7, 1, 1, api.MayWrite, api.OK)
	wantStore(t, m, 1, 7*256+10, "abcdef", api.OK)
	wantPoke(t, m, 7*256+12, "XY", api.OK)
	wantStore(t, m, 1, 7*256+13, "-", api.OK)
	wantLoad(t, m, 1, 7*256+9, 8, "\x00abX-ef\x00", api.OK)
	wantProtect(t, m, 7, api.MayNone, api.MayWrite, api.OK)
	wantPoke(t, m, 7*256+10, "A", api.OK)
	wantProtect(t, m, 7, api.MayRead, api.MayNone, api.OK)
	wantLoad(t, m, 1, 7*256+9, 8, "\x00AbX-ef\x00", api.OK)
	wantUnmap(t, m, 7, api.OK)
	wantMap(t, m, 7, 1, 1, api.MayRead, api.OK)
	wantLoad(t, m, 1, 7*256, 256, noughts(256), api.OK)
}

// Rules: what is handed in is neither changed nor kept; an answer is new memory
func TestBytesAreApart(t *testing.T) {
	m := made(t, 2)
	wantMap(t, m, 2, 1, 1, api.MayWrite, api.OK)
	wantMap(t, m, 3, 1, 1, api.MayWrite, api.OK)
	for _, many := range []int{5, 200, 400} {
		all := []byte(others(9, 600))
		want := string(all)
		for _, does := range []func(b []byte) api.Errno{
			func(b []byte) api.Errno { return m.Store(1, 600, b) },
			func(b []byte) api.Errno { return m.Poke(600, b) },
		} {
			if e := does(all[:many]); e != api.OK || string(all) != want {
				t.Fatalf("%d bytes: %v, handed in is %x", many, e, all)
			}
			all[0], all[many-1] = 'x', 'y'
			wantLoad(t, m, 1, 600, many, want[:many], api.OK)
			copy(all, want)
		}
		for _, tells := range []func() ([]byte, api.Errno){
			func() ([]byte, api.Errno) { return m.Load(1, 600, many) },
			func() ([]byte, api.Errno) { return m.Peek(600, many) },
		} {
			b, _ := tells()
			c, _ := tells()
			for i := range b[:cap(b)] {
				b[:cap(b)][i] = 'x'
			}
			d, _ := tells()
			if string(c) != want[:many] || string(d) != want[:many] {
				t.Fatalf("%d bytes: %x, then %x", many, c, d)
			}
		}
	}
}

// P9.3
func TestPages(t *testing.T) {
	m, _ := some(t)
	wantPages(t, m, 1, 2, 3, 4, 5, 65535)
	wantPages(t, m, 0, 0)
	wantPages(t, m, 2, 6)
	wantPages(t, m, api.Nobody, 7)
	for _, owner := range append([]int{3, 62, 63}, noOwners...) {
		wantPages(t, m, owner)
	}
	all := m.Pages(1)
	wantUnmap(t, m, 3, api.OK)
	wantMap(t, m, 3, 2, 1, api.MayRead, api.OK)
	wantMap(t, m, 8, 1, 2, api.MayRead, api.OK)
	for range 2 {
		if l := slices.Collect(all); !slices.Equal(l, []int{2, 3, 4, 5, 65535}) {
			t.Fatalf("Pages of before: %v", l)
		}
	}
	wantPages(t, m, 1, 2, 4, 5, 8, 65535)
	var l []int
	for page := range m.Pages(1) {
		l = append(l, page)
		for _, x := range []int{2, 4, 5, 8, 65535} {
			m.Unmap(x)
		}
	}
	if !slices.Equal(l, []int{2, 4, 5, 8, 65535}) {
		t.Fatalf("Pages while they are unmapped: %v", l)
	}
	wantPages(t, m, 1)
}

// P9.3
func TestPagesLeftAtAnyTimeAndGoneOverAgain(t *testing.T) {
	m := made(t, 10)
	for i := range 10 {
		wantMap(t, m, (i*7+3)%10*100, 5, 1, api.MayRead, api.OK)
	}
	all, want := m.Pages(5), []int{0, 100, 200, 300, 400, 500, 600, 700, 800, 900}
	for many := range want {
		var l []int
		all(func(page int) bool {
			if len(l) > many {
				t.Fatalf("told on after it was left at %d", many)
			}
			l = append(l, page)
			return len(l) <= many
		})
		if !slices.Equal(l, want[:many+1]) {
			t.Errorf("left behind %d: %v", many, l)
		}
		if l := slices.Collect(all); !slices.Equal(l, want) {
			t.Errorf("gone over again: %v", l)
		}
	}
}

// P9.3
func TestLeftAndRoom(t *testing.T) {
	m, _ := some(t)
	for payer, want := range []int{0, 1, 1, 0} {
		wantLeft(t, m, payer, want)
	}
	wantLeft(t, m, 63, 0)
	for _, payer := range noPayers {
		wantLeft(t, m, payer, 0)
	}
	if m.Room() != 2 {
		t.Errorf("Room: %d", m.Room())
	}
	wantReserve(t, m, 63, 2, api.OK)
	wantLeft(t, m, 63, 2)
	// Who pays is told, not whose the page is.
	wantMap(t, m, 30, 4, 63, api.MayNone, api.OK)
	wantLeft(t, m, 63, 1)
	wantLeft(t, m, 4, 0)
	wantUnmap(t, m, 6, api.OK)
	wantLeft(t, m, 1, 2)
	wantLeft(t, m, 2, 1)
	if m.Room() != 0 {
		t.Errorf("Room: %d", m.Room())
	}
}

// P9.3
func TestCopiesGoOnApart(t *testing.T) {
	m, f := some(t)
	change := func(m *vmem.Memory, f *facts, page int, b string) {
		t.Helper()
		at := uint32(page * api.PageSize)
		wantPoke(t, m, at+5, b, api.OK)
		f.put(at+5, b)
		wantUnmap(t, m, 7, f.unmap(7))
		wantMap(t, m, page+20, 3, 2, api.MayWrite, f.mapAt(page+20, 3, 2, api.MayWrite))
		wantStore(t, m, 3, at+20*api.PageSize, b, api.OK)
		f.put(at+20*api.PageSize, b)
		was, e := f.protect(4, api.MayNone)
		wantProtect(t, m, 4, api.MayNone, was, e)
		wantReserve(t, m, 9, 1, f.reserve(9, 1))
	}
	n, g := m.Copy(), f.copied()
	wantSame(t, m, n, true)
	check(t, n, g)
	change(m, f, 4, "xyz")
	check(t, n, g)
	check(t, m, f)
	o, h := n.Copy(), g.copied()
	change(n, g, 5, "uvw")
	check(t, m, f)
	check(t, o, h)
	check(t, n, g)
	wantSame(t, m, n, false)
	wantSame(t, n, o, false)
}

// P9.3: each thing that makes two unlike
func TestSame(t *testing.T) {
	of := func(does func(m *vmem.Memory)) *vmem.Memory {
		m, _ := some(t)
		does(m)
		return m
	}
	again := func(m *vmem.Memory, page, owner, payer int, may api.May) {
		t.Helper()
		b, _ := m.Peek(uint32(page*api.PageSize), api.PageSize)
		wantUnmap(t, m, page, api.OK)
		wantMap(t, m, page, owner, payer, may, api.OK)
		wantPoke(t, m, uint32(page*api.PageSize), string(b), api.OK)
	}
	l := []*vmem.Memory{
		of(func(m *vmem.Memory) {}),
		of(func(m *vmem.Memory) { m.Unmap(65535) }),
		of(func(m *vmem.Memory) { m.Unmap(6); m.Map(6, 2, 1, api.MayWrite) }),
		of(func(m *vmem.Memory) { m.Map(1, 1, 1, api.MayRead) }),
		of(func(m *vmem.Memory) { m.Map(1, 1, 2, api.MayRead) }),
		of(func(m *vmem.Memory) { m.Poke(3*256, []byte{255}) }),
		of(func(m *vmem.Memory) { m.Poke(7*256+255, []byte{255}) }),
		of(func(m *vmem.Memory) { m.Protect(2, api.MayRead) }),
		of(func(m *vmem.Memory) { m.Protect(7, api.MayNone) }),
		of(func(m *vmem.Memory) { again(m, 6, 1, 1, api.MayWrite) }),
		of(func(m *vmem.Memory) { again(m, 6, 2, 1, api.MayRead) }),
		of(func(m *vmem.Memory) { m.Reserve(1, 7) }),
		of(func(m *vmem.Memory) { m.Reserve(1, 5) }),
		of(func(m *vmem.Memory) { m.Reserve(63, 1) }),
		made(t, 0), nil,
	}
	for i, a := range l {
		for k, b := range l {
			if vmem.Same(a, b) != (i == k) {
				t.Errorf("Same(%d, %d): %v", i, k, i != k)
			}
		}
		wantSame(t, a, a.Copy(), true)
	}
	// The same again by another way: how it came to be so, and what was in free frames, is not told.
	m := of(func(m *vmem.Memory) {
		again(m, 6, 2, 1, api.MayWrite)
		m.Map(100, 5, 1, api.MayWrite)
		m.Store(5, 25600, []byte("left behind"))
		m.Unmap(100)
		m.Reserve(9, 2)
		m.Reserve(9, 0)
		m.Protect(5, api.MayNone)
		m.Protect(5, api.MayRead)
	})
	wantSame(t, m, l[0], true)
}

// P9.1 to P9.4: held against plain lists, call by call
func TestCallsInAnyOrder(t *testing.T) {
	r := rand.New(rand.NewSource(9))
	for _, low := range []int{-2, 250, api.MaxPages - 8} {
		m, f := bare(t, 9), factsOf(9)
		for i := range 4000 {
			page, owner, payer := low+r.Intn(11), r.Intn(5)-2, r.Intn(5)-1
			may := api.May(r.Intn(14)/4 - r.Intn(20)/19)
			at, many := uint32(max(0, page*api.PageSize+r.Intn(512)-256)), r.Intn(700)
			switch r.Intn(9) {
			case 0:
				n := r.Intn(7) - 1
				wantReserve(t, m, payer, n, f.reserve(payer, n))
			case 1, 2:
				wantMap(t, m, page, owner, payer, may, f.mapAt(page, owner, payer, may))
			case 3:
				wantUnmap(t, m, page, f.unmap(page))
			case 4:
				was, e := f.protect(page, may)
				wantProtect(t, m, page, may, was, e)
			default:
				do(t, m, f, r.Intn(4), owner, at, many)
			}
			if i%500 == 0 {
				check(t, m, f)
			}
		}
		check(t, m, f)
		wantSame(t, m, m.Copy(), true)
	}
}

// do loads, stores, peeks or pokes, and holds it against the facts.
func do(t *testing.T, m *vmem.Memory, f *facts, kind, owner int, at uint32, many int) {
	t.Helper()
	may, b := api.May(kind%2+1), others(byte(at), many)
	if kind >= 2 {
		owner, may = 0, -1
	}
	e, want := f.reach(owner, at, many, may), ""
	if e == api.OK {
		want = f.get(at, many)
	}
	switch kind {
	case 0:
		wantLoad(t, m, owner, at, many, want, e)
	case 1:
		wantStore(t, m, owner, at, b, e)
	case 2:
		wantPeek(t, m, at, many, want, e)
	case 3:
		wantPoke(t, m, at, b, e)
	}
	if kind%2 == 1 && e == api.OK {
		f.put(at, b)
	}
}

// Limits: MaxFrames frames, reaches over all of them
func TestMostFrames(t *testing.T) {
	m := made(t, api.MaxFrames)
	const first = api.MaxPages - api.MaxFrames
	for page := first; page < api.MaxPages; page++ {
		wantMap(t, m, page^1, 1, 1, api.MayWrite, api.OK)
	}
	wantMap(t, m, 0, 1, 1, api.MayWrite, api.ErrLeft)
	wantReserve(t, m, 1, api.MaxFrames+1, api.ErrFrames)
	all := others(1, api.MaxFrames*api.PageSize)
	wantStore(t, m, 1, first*api.PageSize, all, api.OK)
	b, e := m.Load(1, first*api.PageSize, len(all))
	if e != api.OK || !bytes.Equal(b, []byte(all)) {
		t.Fatalf("Load of all: %v, %d bytes", e, len(b))
	}
	if _, e := m.Load(1, first*api.PageSize-1, len(all)); e != api.ErrFault {
		t.Errorf("Load of one ahead of all: %v", e)
	}
	if n := len(slices.Collect(m.Pages(1))); n != api.MaxFrames {
		t.Errorf("Pages: %d", n)
	}
	n := m.Copy()
	wantSame(t, m, n, true)
	wantPoke(t, n, 1<<24-1, "\x00", api.OK)
	wantSame(t, m, n, false)
	wantUnmap(t, m, 60000, api.OK)
	wantMap(t, m, 0, 2, 1, api.MayRead, api.OK)
	wantLoad(t, m, 2, 0, 256, noughts(256), api.OK)
	wantLoad(t, m, 1, 59999*256+255, 2, "", api.ErrFault)
}

// P9.1 to P9.3; Rules: a memory that is not there; a zero object is as a nil one
func TestNoMemory(t *testing.T) {
	refused, _ := vmem.New(-1)
	none := []*vmem.Memory{nil, refused, new(vmem.Memory), {}, (*vmem.Memory)(nil).Copy(), new(vmem.Memory).Copy()}
	for i, m := range none {
		for _, n := range []int{0, 1, 63, 64, 65535, 65536, 1<<24 + 1, -1, math.MaxInt, math.MinInt} {
			wantReserve(t, m, n, n, api.ErrNil)
			wantReserve(t, m, 1, 0, api.ErrNil)
			wantMap(t, m, n, n, n, api.May(n), api.ErrNil)
			wantMap(t, m, 1, 1, 1, api.MayRead, api.ErrNil)
			wantUnmap(t, m, n, api.ErrNil)
			wantProtect(t, m, n, api.May(n), 0, api.ErrNil)
			wantGet(t, m, n, api.Entry{}, false)
			for _, at := range []uint32{0, 768, 1 << 24, 1<<32 - 1} {
				wantLoad(t, m, n, at, n, "", api.ErrNil)
				wantLoad(t, m, 1, at, 1, "", api.ErrNil)
				wantStore(t, m, n, at, "", api.ErrNil)
				wantStore(t, m, 1, at, "x", api.ErrNil)
				wantPeek(t, m, at, n, "", api.ErrNil)
				wantPoke(t, m, at, "", api.ErrNil)
				wantPoke(t, m, at, "x", api.ErrNil)
			}
			wantPages(t, m, n)
			wantLeft(t, m, n, 0)
		}
		if m.Room() != 0 || m.Copy() != nil {
			t.Errorf("%d: Room %d, Copy %v", i, m.Room(), m.Copy())
		}
		for _, o := range none {
			wantSame(t, m, o, true)
		}
		wantSame(t, m, made(t, 0), false)
		wantSame(t, m, made(t, 3), false)
	}
}

// P9.1: a memory without frames is there
func TestMemoryWithoutFrames(t *testing.T) {
	m := made(t, 0)
	wantMap(t, m, 0, 1, 1, api.MayRead, api.ErrLeft)
	wantUnmap(t, m, 0, api.ErrNone)
	wantProtect(t, m, 0, api.MayRead, 0, api.ErrNone)
	wantLoad(t, m, 1, 0, 1, "", api.ErrFault)
	wantPeek(t, m, 0, 1, "", api.ErrFault)
	wantReserve(t, m, 1, 1, api.ErrFrames)
	if m.Copy() == nil {
		t.Error("Copy: nil")
	}
	wantSame(t, m, m.Copy(), true)
}
