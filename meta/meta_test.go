package meta_test

import (
	"bytes"
	"math"
	"math/rand"
	"slices"
	"testing"

	"pinfold/api"
	"pinfold/meta"
	"pinfold/state"
	"pinfold/vmem"
)

const (
	tenants   = 4
	classes   = 8
	pageBytes = 256
	bookPages = 48
	greats    = 384
	greatFrom = 24 * pageBytes
	addresses = 1 << 24
	letters   = "fklhg"
)

// books are the first pages of the tenants' books.
var books = [tenants]int{1, 65, 129, 193}

// bases are the first pages of the tenants' windows.
var bases = [tenants]int{4096, 8192, 12288, 16384}

// slotBytes are how great the classes' slots are, counts how many a region has.
var (
	slotBytes = [classes]int{48, 64, 80, 96, 128, 160, 224, 288}
	counts    = [classes]int{85, 64, 51, 42, 32, 25, 18, 14}
)

// noTenants are those just beyond both ends, those whose book there would be, and those that a narrower kind would cut to one that there is.
var noTenants = []int{4, 5, 63, 64, 255, 256, 257, 259, 1023, 65535, 65536, 65537, 1 << 31, 1<<32 - 1, 1 << 32, 1<<32 + 3, 1 << 52, 1 << 58, 1 << 62, math.MaxInt - 1, math.MaxInt, -1, -2, -3, -4, -256, -65536, -1 << 31, 1 - 1<<32, -1 << 32, math.MinInt, math.MinInt + 1, math.MinInt + 3}

// noClasses are such of classes.
var noClasses = []int{8, 9, 15, 16, 255, 256, 257, 263, 65536, 65543, 1 << 31, 1<<32 - 1, 1 << 32, 1<<32 + 7, 1 << 60, 1 << 62, math.MaxInt - 1, math.MaxInt, -1, -2, -8, -256, -65536, -1 << 31, 7 - 1<<32, -1 << 32, math.MinInt, math.MinInt + 1, math.MinInt + 7}

// noPayers are such of payers; nobody pays for nothing.
var noPayers = []int{-1, -2, -63, -64, -256, -257, 64, 65, 127, 128, 255, 256, 257, 65536, 1 << 31, 1<<32 - 1, 1 << 32, 1<<32 + 1, math.MaxInt, math.MinInt, math.MinInt + 1}

// noIndexes are such of indexes, beside those at and just behind the number that there are.
var noIndexes = []int{-1, -2, -85, -256, -384, -65536, -1 << 31, 1 - 1<<32, -1 << 32, math.MinInt, math.MinInt + 1, math.MinInt + 85, 385, 512, 65536, 65537, 1 << 28, 1 << 29, 1 << 31, 1<<32 - 1, 1 << 32, 1<<32 + 1, 1 << 60, 1 << 61, 1 << 62, math.MaxInt - 1, math.MaxInt}

// noStates are such of states.
var noStates = []api.State{-1, -2, -5, -256, -255, -65536, -1 << 32, 1 - 1<<32, math.MinInt, math.MinInt + 1, 5, 6, 255, 256, 257, 260, 65536, 1 << 31, 1 << 32, 1<<32 + 1, math.MaxInt}

// noShorts are numbers that two bytes do not say, and those that a narrower kind would cut to one that they do.
var noShorts = []int{-1, -2, -256, -65535, -65536, -1 << 31, 1 - 1<<32, -1 << 32, math.MinInt, math.MinInt + 1, 65536, 65537, 131072, 262144, 1 << 31, 1<<32 - 1, 1 << 32, 1<<32 + 1, 1 << 48, math.MaxInt}

// noSizes are sizes that no great piece has, likewise.
var noSizes = []int{-1, -2, -256, -65536, -262144, -1 << 31, 1 - 1<<32, -1 << 32, math.MinInt, math.MinInt + 1, 262145, 262146, 524288, 1 << 31, 1<<32 - 1, 1 << 32, 1<<32 + 1, 1<<32 + 262144, 1 << 48, math.MaxInt}

// states are all that there are.
var states = []api.State{api.StateFree, api.StateKept, api.StateLive, api.StateHeld, api.StateGone}

// memory is one of so many frames, all of them the payer 63's.
func memory(t *testing.T, frames int) *vmem.Memory {
	t.Helper()
	m, e := vmem.New(frames)
	if e != api.OK {
		t.Fatalf("New(%d): %v", frames, e)
	}
	reserve(t, m, 63, frames)
	return m
}

func reserve(t *testing.T, m *vmem.Memory, payer, many int) {
	t.Helper()
	if e := m.Reserve(payer, many); e != api.OK {
		t.Fatalf("Reserve(%d, %d): %v", payer, many, e)
	}
}

// opened is a memory in which all tenants' books are open, and no frame is left.
func opened(t *testing.T) *vmem.Memory {
	t.Helper()
	m := memory(t, tenants*bookPages)
	for tenant := range tenants {
		wantOpen(t, m, tenant, 63, api.OK)
	}
	return m
}

func mapped(t *testing.T, m *vmem.Memory, page, owner, payer int, may api.May) {
	t.Helper()
	if e := m.Map(page, owner, payer, may); e != api.OK {
		t.Fatalf("Map(%d, %d, %d, %d): %v", page, owner, payer, may, e)
	}
}

func unmapped(t *testing.T, m *vmem.Memory, page int) {
	t.Helper()
	if e := m.Unmap(page); e != api.OK {
		t.Fatalf("Unmap(%d): %v", page, e)
	}
}

// raw are the bytes of a tenant's open book.
func raw(t *testing.T, m *vmem.Memory, tenant int) []byte {
	t.Helper()
	b, e := m.Peek(uint32(books[tenant]*pageBytes), bookPages*pageBytes)
	if e != api.OK {
		t.Fatalf("the book of %d: %v", tenant, e)
	}
	return b
}

// lay lays bytes at a place of a tenant's open book.
func lay(t *testing.T, m *vmem.Memory, tenant, place int, b ...byte) {
	t.Helper()
	if e := m.Poke(uint32(books[tenant]*pageBytes+place), b); e != api.OK {
		t.Fatalf("the book of %d at %d: %v", tenant, place, e)
	}
}

// recordPlace is where in a book a slot's record begins, greatPlace where a great one does.
func recordPlace(class, index int) int { return 3*class*pageBytes + 8*index }

func greatPlace(index int) int { return greatFrom + 16*index }

// recordBytes are those of a record, laid by the chapter; greatBytes those of a great one.
func recordBytes(r api.Record) []byte {
	return []byte{byte(r.State), 0, byte(r.Size), byte(r.Size >> 8), byte(r.Nonce), byte(r.Nonce >> 8), byte(r.Nonce >> 16), byte(r.Nonce >> 24)}
}

func greatBytes(g api.Great) []byte {
	return []byte{byte(g.State), 0, byte(g.Pages), byte(g.Pages >> 8), byte(g.Size), byte(g.Size >> 8), byte(g.Size >> 16), byte(g.Size >> 24), byte(g.First), byte(g.First >> 8), byte(g.First >> 16), byte(g.First >> 24), 0, 0, 0, 0}
}

func wantOpen(t *testing.T, m *vmem.Memory, tenant, payer int, e api.Errno) {
	t.Helper()
	if f := meta.Open(m, tenant, payer); f != e {
		t.Fatalf("Open(%d, %d): %v, want %v", tenant, payer, f, e)
	}
}

func wantClose(t *testing.T, m *vmem.Memory, tenant int, e api.Errno) {
	t.Helper()
	if f := meta.Close(m, tenant); f != e {
		t.Fatalf("Close(%d): %v, want %v", tenant, f, e)
	}
}

func wantGet(t *testing.T, m *vmem.Memory, p api.Spot, r api.Record, e api.Errno) {
	t.Helper()
	if q, f := meta.Get(m, p); q != r || f != e {
		t.Fatalf("Get(%+v): %+v %v, want %+v %v", p, q, f, r, e)
	}
}

func wantPut(t *testing.T, m *vmem.Memory, p api.Spot, r api.Record, e api.Errno) {
	t.Helper()
	if f := meta.Put(m, p, r); f != e {
		t.Fatalf("Put(%+v, %+v): %v, want %v", p, r, f, e)
	}
}

func wantGetGreat(t *testing.T, m *vmem.Memory, tenant, index int, g api.Great, e api.Errno) {
	t.Helper()
	if h, f := meta.GetGreat(m, tenant, index); h != g || f != e {
		t.Fatalf("GetGreat(%d, %d): %+v %v, want %+v %v", tenant, index, h, f, g, e)
	}
}

func wantPutGreat(t *testing.T, m *vmem.Memory, tenant, index int, g api.Great, e api.Errno) {
	t.Helper()
	if f := meta.PutGreat(m, tenant, index, g); f != e {
		t.Fatalf("PutGreat(%d, %d, %+v): %v, want %v", tenant, index, g, f, e)
	}
}

func wantStates(t *testing.T, m *vmem.Memory, tenant, class int, text string, e api.Errno) {
	t.Helper()
	s, f := meta.States(m, tenant, class)
	if f != e || s.Text() != text || (s != nil) != (e == api.OK) {
		t.Fatalf("States(%d, %d): %q %v, want %q %v", tenant, class, s.Text(), f, text, e)
	}
}

func wantAt(t *testing.T, p api.Spot, at uint32, e api.Errno) {
	t.Helper()
	if x, f := meta.At(p); x != at || f != e {
		t.Fatalf("At(%+v): %d %v, want %d %v", p, x, f, at, e)
	}
}

func wantFind(t *testing.T, at uint32, p api.Spot, e api.Errno) {
	t.Helper()
	if q, f := meta.Find(at); q != p || f != e {
		t.Fatalf("Find(%d): %+v %v, want %+v %v", at, q, f, p, e)
	}
}

// wantSame holds a memory against what it was.
func wantSame(t *testing.T, m, was *vmem.Memory, what string) {
	t.Helper()
	if !vmem.Same(m, was) {
		t.Fatalf("%s changed the memory", what)
	}
}

// P15.2, P15.3, the examples
func TestExamples(t *testing.T) {
	wantAt(t, api.Spot{}, 1048848, api.OK)
	wantAt(t, api.Spot{Index: 1}, 1048896, api.OK)
	wantFind(t, 1048848, api.Spot{}, api.OK)
	wantFind(t, 1048849, api.Spot{}, api.ErrSpot)
	wantAt(t, api.Spot{Index: 85}, 0, api.ErrRange)
	wantAt(t, api.Spot{Slot: 4}, 0, api.ErrArg)
	wantPut(t, memory(t, bookPages), api.Spot{}, api.Record{}, api.ErrNone)
}

// P15.1
func TestOpen(t *testing.T) {
	for tenant, first := range books {
		for _, payer := range []int{0, 1, tenant, 62, 63} {
			m := memory(t, 200)
			reserve(t, m, 63, 0)
			reserve(t, m, payer, 60)
			wantOpen(t, m, tenant, payer, api.OK)
			if left := m.Left(payer); left != 12 {
				t.Fatalf("Open(%d, %d): %d are left", tenant, payer, left)
			}
			var want []int
			for page := range bookPages {
				want = append(want, first+page)
			}
			if l := slices.Collect(m.Pages(api.Nobody)); !slices.Equal(l, want) {
				t.Fatalf("Open(%d, %d): %v", tenant, payer, l)
			}
			for owner := range 64 {
				for page := range m.Pages(owner) {
					t.Fatalf("Open(%d, %d): page %d is %d's", tenant, payer, page, owner)
				}
			}
			if !bytes.Equal(raw(t, m, tenant), make([]byte, bookPages*pageBytes)) {
				t.Fatalf("Open(%d, %d): not all 0", tenant, payer)
			}
		}
	}
}

// P15.1: what frames had is not there, and just enough is enough
func TestOpenAnew(t *testing.T) {
	m := memory(t, bookPages)
	for page := range bookPages {
		mapped(t, m, 1000+page, 2, 63, api.MayWrite)
		m.Poke(uint32((1000+page)*pageBytes), bytes.Repeat([]byte{0xAA}, pageBytes))
	}
	for page := range bookPages {
		unmapped(t, m, 1000+page)
	}
	for tenant := range tenants {
		wantOpen(t, m, tenant, 63, api.OK)
		wantStates(t, m, tenant, 7, "ffffffffffffff", api.OK)
		if !bytes.Equal(raw(t, m, tenant), make([]byte, bookPages*pageBytes)) {
			t.Fatalf("Open(%d): not all 0", tenant)
		}
		lay(t, m, tenant, 0, bytes.Repeat([]byte{0x55}, bookPages*pageBytes)...)
		wantClose(t, m, tenant, api.OK)
	}
}

// P15.1: pages beside a book do not count
func TestOpenBesideOthers(t *testing.T) {
	for tenant, first := range books {
		m := memory(t, 2+bookPages)
		mapped(t, m, first-1, 0, 63, api.MayWrite)
		mapped(t, m, first+bookPages, api.Nobody, 63, api.MayNone)
		wantOpen(t, m, tenant, 63, api.OK)
		if m.Left(63) != 0 {
			t.Fatalf("Open(%d): %d are left", tenant, m.Left(63))
		}
		wantClose(t, m, tenant, api.OK)
		if x, is := m.Get(first - 1); !is || x.Owner != 0 {
			t.Fatalf("Close(%d): the page ahead is %+v %v", tenant, x, is)
		}
		if x, is := m.Get(first + bookPages); !is || x.Owner != api.Nobody {
			t.Fatalf("Close(%d): the page behind is %+v %v", tenant, x, is)
		}
		if m.Left(63) != bookPages {
			t.Fatalf("Close(%d): %d are left", tenant, m.Left(63))
		}
	}
}

// P15.1: ErrNil, ErrArg
func TestOpenArgs(t *testing.T) {
	for _, m := range []*vmem.Memory{nil, {}} {
		for _, tenant := range append([]int{0, 3}, noTenants...) {
			wantOpen(t, m, tenant, 63, api.ErrNil)
			wantOpen(t, m, tenant, 64, api.ErrNil)
			wantClose(t, m, tenant, api.ErrNil)
		}
	}
	// One book is open, and of another there are not frames enough: neither counts ahead of what may not be.
	m := memory(t, bookPages+5)
	wantOpen(t, m, 1, 63, api.OK)
	was := m.Copy()
	for _, tenant := range noTenants {
		wantOpen(t, m, tenant, 63, api.ErrArg)
		wantOpen(t, m, tenant, 5, api.ErrArg)
		wantOpen(t, m, tenant, -1, api.ErrArg)
		wantClose(t, m, tenant, api.ErrArg)
	}
	for _, payer := range noPayers {
		wantOpen(t, m, 0, payer, api.ErrArg)
		wantOpen(t, m, 1, payer, api.ErrArg)
	}
	wantSame(t, m, was, "what may not be")
}

// P15.1: ErrMapped, whosever a page of the book is, ahead of ErrLeft
func TestOpenMapped(t *testing.T) {
	for tenant, first := range books {
		for page := range bookPages {
			for _, owner := range []int{api.Nobody, tenant, 63} {
				for _, frames := range []int{1, bookPages, 100} {
					m := memory(t, frames)
					mapped(t, m, first+page, owner, 63, api.MayNone)
					was := m.Copy()
					wantOpen(t, m, tenant, 63, api.ErrMapped)
					wantOpen(t, m, tenant, 7, api.ErrMapped)
					wantSame(t, m, was, "Open")
				}
			}
		}
		m := opened(t)
		was := m.Copy()
		wantOpen(t, m, tenant, 63, api.ErrMapped)
		wantSame(t, m, was, "Open")
	}
}

// P15.1: ErrLeft; then nothing is mapped
func TestOpenLeft(t *testing.T) {
	for tenant := range tenants {
		for left := range bookPages {
			m := memory(t, 100)
			reserve(t, m, 63, 10+left)
			for page := range 10 {
				mapped(t, m, 3000+page, 1, 63, api.MayWrite)
			}
			was := m.Copy()
			wantOpen(t, m, tenant, 63, api.ErrLeft)
			wantOpen(t, m, tenant, 0, api.ErrLeft)
			wantSame(t, m, was, "Open")
		}
		m := memory(t, 100)
		reserve(t, m, 63, 10+bookPages)
		for page := range 10 {
			mapped(t, m, 3000+page, 1, 63, api.MayWrite)
		}
		wantOpen(t, m, tenant, 63, api.OK)
	}
}

// P15.1
func TestClose(t *testing.T) {
	for tenant := range tenants {
		m := opened(t)
		wantPut(t, m, api.Spot{Slot: tenant, Class: 2, Index: 3}, api.Record{State: api.StateLive, Size: 5}, api.OK)
		wantClose(t, m, tenant, api.OK)
		if m.Left(63) != bookPages {
			t.Fatalf("Close(%d): %d are left", tenant, m.Left(63))
		}
		for other, first := range books {
			for page := first; page < first+bookPages; page++ {
				if _, is := m.Get(page); is != (other != tenant) {
					t.Fatalf("Close(%d): page %d is mapped: %v", tenant, page, is)
				}
			}
		}
		was := m.Copy()
		wantClose(t, m, tenant, api.ErrNone)
		wantSame(t, m, was, "Close")
		wantOpen(t, m, tenant, 63, api.OK)
		wantGet(t, m, api.Spot{Slot: tenant, Class: 2, Index: 3}, api.Record{}, api.OK)
	}
}

// P15.1, P15.2, P15.3: a book is open only if each page of it is nobody's
func TestOpenBooks(t *testing.T) {
	shut := func(m *vmem.Memory, tenant int, e api.Errno) {
		t.Helper()
		for class := range classes {
			p := api.Spot{Slot: tenant, Class: class, Index: counts[class] - 1}
			wantGet(t, m, p, api.Record{}, e)
			wantPut(t, m, p, api.Record{}, e)
			text := ""
			if e == api.OK {
				text = string(bytes.Repeat([]byte{'f'}, counts[class]))
			}
			wantStates(t, m, tenant, class, text, e)
		}
		wantGetGreat(t, m, tenant, greats-1, api.Great{}, e)
		wantPutGreat(t, m, tenant, greats-1, api.Great{}, e)
	}
	for tenant, first := range books {
		for page := first; page < first+bookPages; page++ {
			m := memory(t, bookPages)
			shut(m, tenant, api.ErrNone)
			wantClose(t, m, tenant, api.ErrNone)
			wantOpen(t, m, tenant, 63, api.OK)
			shut(m, tenant, api.OK)
			unmapped(t, m, page)
			was := m.Copy()
			shut(m, tenant, api.ErrNone)
			wantClose(t, m, tenant, api.ErrNone)
			for _, owner := range []int{0, tenant, 63} {
				mapped(t, m, page, owner, 63, api.MayWrite)
				shut(m, tenant, api.ErrNone)
				wantClose(t, m, tenant, api.ErrNone)
				unmapped(t, m, page)
			}
			wantSame(t, m, was, "what is not open")
			// It is open by what its pages are, whoever mapped them, whatever may be done there.
			mapped(t, m, page, api.Nobody, 63, api.May(page%3))
			shut(m, tenant, api.OK)
			wantClose(t, m, tenant, api.OK)
		}
	}
}

// record and great are such as may be, made of a number.
func record(n int) api.Record {
	return api.Record{State: states[n%5], Size: n * 7919 % 65536, Nonce: uint32(n) * 2654435769}
}

func great(n int) api.Great {
	return api.Great{State: states[n%5], Pages: n * 7919 % 65536, Size: n * 104729 % 262145, First: n * 15485863 % 65536}
}

// P15.2, P15.4: each record has its place, and changes no other byte
func TestPlaces(t *testing.T) {
	m := opened(t)
	var want [tenants][bookPages * pageBytes]byte
	n := 0
	held := func(what string) {
		t.Helper()
		for tenant := range tenants {
			if !bytes.Equal(raw(t, m, tenant), want[tenant][:]) {
				t.Fatalf("%s: the book of %d is not as laid", what, tenant)
			}
		}
	}
	for tenant := range tenants {
		for class, count := range counts {
			for index := range count {
				n++
				wantPut(t, m, api.Spot{Slot: tenant, Class: class, Index: index}, record(n), api.OK)
				copy(want[tenant][recordPlace(class, index):], recordBytes(record(n)))
				held("Put")
			}
		}
		for index := range greats {
			n++
			wantPutGreat(t, m, tenant, index, great(n), api.OK)
			copy(want[tenant][greatPlace(index):], greatBytes(great(n)))
			held("PutGreat")
		}
	}
	n = 0
	for tenant := range tenants {
		for class, count := range counts {
			for index := range count {
				n++
				wantGet(t, m, api.Spot{Slot: tenant, Class: class, Index: index}, record(n), api.OK)
			}
		}
		for index := range greats {
			n++
			wantGetGreat(t, m, tenant, index, great(n), api.OK)
		}
	}
	held("Get")
}

// P15.2: what is read is what stands there, by whomever
func TestRead(t *testing.T) {
	m := opened(t)
	lay(t, m, 2, 3*5*pageBytes+8*3, 3, 0, 0x34, 0x12, 0x78, 0x56, 0x34, 0x92)
	wantGet(t, m, api.Spot{Slot: 2, Class: 5, Index: 3}, api.Record{State: api.StateHeld, Size: 0x1234, Nonce: 0x92345678}, api.OK)
	lay(t, m, 1, 24*pageBytes+16*300, 4, 0, 0xCD, 0xAB, 0x21, 0x43, 2, 0, 0xFE, 0xFF, 0, 0, 0, 0, 0, 0)
	wantGetGreat(t, m, 1, 300, api.Great{State: api.StateGone, Pages: 0xABCD, Size: 0x24321, First: 0xFFFE}, api.OK)
}

// P15.2: the greatest and the least that may be
func TestEdgesOfRecords(t *testing.T) {
	m := opened(t)
	p := api.Spot{Slot: 1, Class: 3, Index: 41}
	for _, s := range states {
		for _, size := range []int{0, 1, 255, 256, 65534, 65535} {
			for _, nonce := range []uint32{0, 1, 255, 256, 65535, 65536, 1<<24 - 1, 1 << 24, 1 << 31, math.MaxUint32} {
				r := api.Record{State: s, Size: size, Nonce: nonce}
				wantPut(t, m, p, r, api.OK)
				wantGet(t, m, p, r, api.OK)
			}
		}
		for _, pages := range []int{0, 1, 255, 256, 65535} {
			for _, size := range []int{0, 1, 65535, 65536, 262143, 262144} {
				for _, first := range []int{0, 1, 255, 256, 65535} {
					g := api.Great{State: s, Pages: pages, Size: size, First: first}
					wantPutGreat(t, m, 3, 383, g, api.OK)
					wantGetGreat(t, m, 3, 383, g, api.OK)
				}
			}
		}
	}
}

// P15.2: ErrNil ahead of all
func TestRecordsOfNoMemory(t *testing.T) {
	for _, m := range []*vmem.Memory{nil, {}} {
		for _, p := range []api.Spot{{}, {Slot: -1}, {Class: 8}, {Index: -1}, {Slot: 4, Class: -1, Index: 85}} {
			wantGet(t, m, p, api.Record{}, api.ErrNil)
			wantPut(t, m, p, api.Record{}, api.ErrNil)
			wantPut(t, m, p, api.Record{State: 9}, api.ErrNil)
			wantGetGreat(t, m, p.Slot, p.Index, api.Great{}, api.ErrNil)
			wantPutGreat(t, m, p.Slot, p.Index, api.Great{}, api.ErrNil)
			wantPutGreat(t, m, p.Slot, p.Index, api.Great{First: -1}, api.ErrNil)
			wantStates(t, m, p.Slot, p.Class, "", api.ErrNil)
		}
	}
}

// refused asks what a call on records answers in memories with the books open, and without any: what applies ahead of ErrNone is the same.
func refused(t *testing.T, e api.Errno, ask func(m *vmem.Memory, e api.Errno)) {
	t.Helper()
	bare, full := memory(t, 0), opened(t)
	for tenant := range tenants {
		lay(t, full, tenant, 0, bytes.Repeat([]byte{0xFF}, bookPages*pageBytes)...)
	}
	for _, m := range []*vmem.Memory{bare, full} {
		was := m.Copy()
		ask(m, e)
		wantSame(t, m, was, "what was refused")
	}
}

// P15.2, P15.3: ErrArg ahead of ErrRange, ErrNone and ErrBook
func TestRecordsArgs(t *testing.T) {
	refused(t, api.ErrArg, func(m *vmem.Memory, e api.Errno) {
		for _, index := range []int{0, 84, -1, 1000} {
			for _, tenant := range noTenants {
				p := api.Spot{Slot: tenant, Class: 1, Index: index}
				wantGet(t, m, p, api.Record{}, e)
				wantPut(t, m, p, api.Record{}, e)
				wantGetGreat(t, m, tenant, index, api.Great{}, e)
				wantPutGreat(t, m, tenant, index, api.Great{}, e)
				wantStates(t, m, tenant, 0, "", e)
			}
			for _, class := range noClasses {
				for tenant := range tenants {
					p := api.Spot{Slot: tenant, Class: class, Index: index}
					wantGet(t, m, p, api.Record{}, e)
					wantPut(t, m, p, api.Record{}, e)
					wantStates(t, m, tenant, class, "", e)
				}
			}
		}
	})
}

// P15.2: records that may not be
func TestNoRecords(t *testing.T) {
	refused(t, api.ErrArg, func(m *vmem.Memory, e api.Errno) {
		for _, index := range []int{0, 13, -1, 1000} {
			p := api.Spot{Slot: 1, Class: 7, Index: index}
			for _, s := range noStates {
				wantPut(t, m, p, api.Record{State: s}, e)
				wantPut(t, m, p, api.Record{State: s, Size: 7, Nonce: 7}, e)
				wantPutGreat(t, m, 1, index, api.Great{State: s}, e)
				wantPutGreat(t, m, 1, index, api.Great{State: s, Pages: 1, Size: 1, First: 1}, e)
			}
			for _, n := range noShorts {
				wantPut(t, m, p, api.Record{State: 2, Size: n, Nonce: 7}, e)
				wantPutGreat(t, m, 1, index, api.Great{State: 2, Pages: n, Size: 7, First: 7}, e)
				wantPutGreat(t, m, 1, index, api.Great{State: 2, Pages: 7, Size: 7, First: n}, e)
			}
			for _, n := range noSizes {
				wantPutGreat(t, m, 1, index, api.Great{State: 2, Pages: 7, Size: n, First: 7}, e)
			}
		}
	})
}

// P15.2: ErrRange ahead of ErrNone and ErrBook
func TestNoIndexes(t *testing.T) {
	refused(t, api.ErrRange, func(m *vmem.Memory, e api.Errno) {
		for tenant := range tenants {
			for class, count := range counts {
				for _, index := range append([]int{count, count + 1, 96, 97, 256}, noIndexes...) {
					p := api.Spot{Slot: tenant, Class: class, Index: index}
					wantGet(t, m, p, api.Record{}, e)
					wantPut(t, m, p, api.Record{}, e)
				}
			}
			for _, index := range append([]int{greats}, noIndexes...) {
				wantGetGreat(t, m, tenant, index, api.Great{}, e)
				wantPutGreat(t, m, tenant, index, api.Great{}, e)
			}
		}
	})
}

// P15.2, P15.3: ErrBook, of each other byte at each place
func TestNoBook(t *testing.T) {
	m := opened(t)
	p := api.Spot{Slot: 2, Class: 4, Index: 31}
	r := api.Record{State: api.StateLive, Size: 100, Nonce: 1 << 20}
	for place := range 8 {
		for x := range 256 {
			wantPut(t, m, p, r, api.OK)
			lay(t, m, 2, recordPlace(4, 31)+place, byte(x))
			_, e := meta.Get(m, p)
			s, f := meta.States(m, 2, 4)
			want := api.OK
			if place == 0 && x > 4 || place == 1 && x > 0 {
				want = api.ErrBook
				wantGet(t, m, p, api.Record{}, want)
				wantStates(t, m, 2, 4, "", want)
			}
			if e != want || f != want || (s == nil) != (want != api.OK) {
				t.Fatalf("%d at %d: %v %v, want %v", x, place, e, f, want)
			}
		}
	}
	wantPut(t, m, p, r, api.OK)
	wantGet(t, m, p, r, api.OK)
}

// P15.2: ErrBook of great records, of each other byte at each place
func TestNoGreatBook(t *testing.T) {
	m := opened(t)
	for place := range 16 {
		for x := range 256 {
			wantPutGreat(t, m, 2, 9, api.Great{State: api.StateLive, Pages: 3, Size: 700, First: 5000}, api.OK)
			lay(t, m, 2, greatPlace(9)+place, byte(x))
			none := place == 0 && x > 4 || place == 1 && x > 0 || place == 6 && x > 3 || place == 7 && x > 0 || place >= 10 && x > 0
			g, e := meta.GetGreat(m, 2, 9)
			if none && (g != api.Great{} || e != api.ErrBook) || !none && e != api.OK {
				t.Fatalf("%d at %d: %+v %v", x, place, g, e)
			}
		}
	}
	for _, n := range []uint32{262144, 262145, 262399, 1 << 19, 1 << 24, 1 << 31, math.MaxUint32} {
		lay(t, m, 2, greatPlace(9), 2, 0, 1, 0, byte(n), byte(n>>8), byte(n>>16), byte(n>>24), 1, 0, 0, 0, 0, 0, 0, 0)
		want, e := api.Great{State: 2, Pages: 1, Size: 262144, First: 1}, api.OK
		if n != 262144 {
			want, e = api.Great{}, api.ErrBook
		}
		wantGetGreat(t, m, 2, 9, want, e)
	}
	// What is none elsewhere does not count.
	wantGetGreat(t, m, 2, 8, api.Great{}, api.OK)
	wantGetGreat(t, m, 2, 10, api.Great{}, api.OK)
	wantGetGreat(t, m, 1, 9, api.Great{}, api.OK)
}

// P15.3
func TestAt(t *testing.T) {
	for tenant, base := range bases {
		for class, count := range counts {
			for index := range count {
				at := uint32((base+1+17*class)*pageBytes + index*slotBytes[class] + 16)
				p := api.Spot{Slot: tenant, Class: class, Index: index}
				wantAt(t, p, at, api.OK)
				wantFind(t, at, p, api.OK)
			}
			for _, index := range append([]int{count, count + 1, 85, 86, 256}, noIndexes...) {
				if index < 0 || index >= count {
					wantAt(t, api.Spot{Slot: tenant, Class: class, Index: index}, 0, api.ErrRange)
				}
			}
		}
	}
	for _, index := range []int{0, -1, 85, math.MaxInt} {
		for _, tenant := range noTenants {
			wantAt(t, api.Spot{Slot: tenant, Class: 2, Index: index}, 0, api.ErrArg)
		}
		for _, class := range noClasses {
			wantAt(t, api.Spot{Slot: 2, Class: class, Index: index}, 0, api.ErrArg)
		}
	}
}

// P15.3, P15.4: all addresses, held against those that At tells
func TestFind(t *testing.T) {
	spots := map[uint32]api.Spot{}
	for tenant := range tenants {
		for class, count := range counts {
			for index := range count {
				p := api.Spot{Slot: tenant, Class: class, Index: index}
				at, e := meta.At(p)
				if q, is := spots[at]; e != api.OK || is {
					t.Fatalf("At(%+v): %d %v, that is %+v, too", p, at, e, q)
				}
				spots[at] = p
			}
		}
	}
	for at := range uint32(addresses) {
		p, e := meta.Find(at)
		q, is := spots[at]
		if p != q || is != (e == api.OK) || !is && e != api.ErrSpot {
			t.Fatalf("Find(%d): %+v %v, want %+v %v", at, p, e, q, is)
		}
	}
	// Those that there are not, and which a narrower kind would cut to one that is a slot's.
	for _, at := range []uint32{addresses, addresses + 1, addresses + 1048848, 1 << 25, 1<<25 + 1048848, 1 << 31, 1<<31 + 1048848, 1<<32 - 1<<24 + 1048848, 1<<32 - 1} {
		wantFind(t, at, api.Spot{}, api.ErrSpot)
	}
}

// P15.3
func TestStates(t *testing.T) {
	m := opened(t)
	for tenant := range tenants {
		for class, count := range counts {
			var text []byte
			for index := range count {
				s := states[(index*index+tenant+class)%5]
				wantPut(t, m, api.Spot{Slot: tenant, Class: class, Index: index}, api.Record{State: s, Size: 65535, Nonce: math.MaxUint32}, api.OK)
				text = append(text, letters[s])
			}
			wantStates(t, m, tenant, class, string(text), api.OK)
		}
	}
	// What a sheet becomes is not seen in the book, nor in another sheet.
	a, _ := meta.States(m, 0, 0)
	b, _ := meta.States(m, 0, 0)
	was := m.Copy()
	for at := range a.Len() {
		for _, s := range states {
			a.Move(at, s)
		}
	}
	if c, _ := meta.States(m, 0, 0); state.Same(a, b) || !state.Same(b, c) {
		t.Errorf("sheets: %s %s %s", a.Text(), b.Text(), c.Text())
	}
	wantSame(t, m, was, "Move")
}

// P15.3: one record that is none is enough; what is no record of the class does not count
func TestStatesOfNoRecord(t *testing.T) {
	m := opened(t)
	for class, count := range counts {
		text := string(bytes.Repeat([]byte{'f'}, count))
		for index := range count {
			for place := range 2 {
				lay(t, m, 1, recordPlace(class, index)+place, 255)
				wantStates(t, m, 1, class, "", api.ErrBook)
				lay(t, m, 1, recordPlace(class, index)+place, 0)
				wantStates(t, m, 1, class, text, api.OK)
			}
		}
		lay(t, m, 1, recordPlace(class, count), bytes.Repeat([]byte{255}, 3*pageBytes-8*count)...)
		if class > 0 {
			lay(t, m, 1, recordPlace(class, -1), 255)
		}
		wantStates(t, m, 1, class, text, api.OK)
	}
	lay(t, m, 1, greatFrom, bytes.Repeat([]byte{255}, greats*16)...)
	lay(t, m, 0, 0, bytes.Repeat([]byte{255}, bookPages*pageBytes)...)
	wantStates(t, m, 1, 7, "ffffffffffffff", api.OK)
}

// P15.4, P0.2: no owner loads or stores in a book
func TestOutOfReach(t *testing.T) {
	m := opened(t)
	was := m.Copy()
	for owner := -1; owner < 64; owner++ {
		for tenant, first := range books {
			for page := first; page < first+bookPages; page++ {
				if b, e := m.Load(owner, uint32(page*pageBytes+page), 1); b != nil || e != api.ErrFault {
					t.Fatalf("Load by %d in the book of %d: %v %v", owner, tenant, b, e)
				}
				if e := m.Store(owner, uint32(page*pageBytes+page), []byte{1}); e != api.ErrFault {
					t.Fatalf("Store by %d in the book of %d: %v", owner, tenant, e)
				}
			}
		}
	}
	wantSame(t, m, was, "Store")
}

// facts are what books have, in plain lists.
type facts struct {
	open   bool
	small  [classes][85]api.Record
	greats [greats]api.Great
}

// texts are the states of a class's slots, as a text.
func (f *facts) text(class int) string {
	var b []byte
	for _, r := range f.small[class][:counts[class]] {
		b = append(b, letters[r.State])
	}
	return string(b)
}

// one does a call that a number picks, and holds it against plain facts.
func one(t *testing.T, m *vmem.Memory, all *[tenants]facts, r *rand.Rand) {
	t.Helper()
	tenant, class := r.Intn(tenants), r.Intn(classes)
	f := &all[tenant]
	p := api.Spot{Slot: tenant, Class: class, Index: r.Intn(counts[class])}
	index := r.Intn(greats)
	e := api.OK
	if !f.open {
		e = api.ErrNone
	}
	switch n := r.Intn(100); {
	case n < 2 && f.open:
		wantOpen(t, m, tenant, 63, api.ErrMapped)
	case n < 3 && f.open:
		wantClose(t, m, tenant, api.OK)
		*f = facts{}
	case n < 8 && !f.open:
		if m.Left(63) < bookPages {
			wantOpen(t, m, tenant, 63, api.ErrLeft)
			return
		}
		wantOpen(t, m, tenant, 63, api.OK)
		*f = facts{open: true}
	case n < 30:
		x := record(r.Intn(1 << 20))
		wantPut(t, m, p, x, e)
		if f.open {
			f.small[class][p.Index] = x
		}
	case n < 50:
		wantGet(t, m, p, f.small[class][p.Index], e)
	case n < 70:
		x := great(r.Intn(1 << 20))
		wantPutGreat(t, m, tenant, index, x, e)
		if f.open {
			f.greats[index] = x
		}
	case n < 90:
		wantGetGreat(t, m, tenant, index, f.greats[index], e)
	case f.open:
		wantStates(t, m, tenant, class, f.text(class), e)
	case n < 95:
		wantStates(t, m, tenant, class, "", e)
	default:
		wantClose(t, m, tenant, e)
	}
}

// P15.1 to P15.4: calls in any order
func TestAnyOrder(t *testing.T) {
	for seed := range int64(20) {
		r := rand.New(rand.NewSource(seed))
		m := memory(t, 3*bookPages+7)
		var all [tenants]facts
		for range 5000 {
			one(t, m, &all, r)
		}
		for tenant := range tenants {
			f := &all[tenant]
			for class, count := range counts {
				for index := range count {
					if f.open {
						wantGet(t, m, api.Spot{Slot: tenant, Class: class, Index: index}, f.small[class][index], api.OK)
					}
				}
			}
			for index := range greats {
				if f.open {
					wantGetGreat(t, m, tenant, index, f.greats[index], api.OK)
				}
			}
		}
	}
}
