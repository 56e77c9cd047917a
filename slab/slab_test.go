package slab_test

import (
	"bytes"
	"math"
	"math/rand"
	"slices"
	"testing"

	"pinfold/api"
	"pinfold/meta"
	"pinfold/seal"
	"pinfold/slab"
	"pinfold/vmem"
)

const (
	tenants     = 4
	classes     = 8
	pageBytes   = 256
	bookPages   = 48
	regionPages = 16
	regionBytes = regionPages * pageBytes
	ends        = 16
	top         = math.MaxUint64
)

// books are the first pages of the tenants' books, bases those of their windows.
var (
	books = [tenants]int{1, 65, 129, 193}
	bases = [tenants]int{4096, 8192, 12288, 16384}
)

// payloads are how many bytes the classes' payloads have, slotBytes how many their slots, counts how many slots a region has.
var (
	payloads  = [classes]int{16, 32, 48, 64, 96, 128, 192, 256}
	slotBytes = [classes]int{48, 64, 80, 96, 128, 160, 224, 288}
	counts    = [classes]int{85, 64, 51, 42, 32, 25, 18, 14}
)

// noTenants are those just beyond both ends, and those that a narrower kind would cut to one that there is.
var noTenants = []int{4, 5, 62, 63, 64, 255, 256, 257, 65536, 1 << 31, 1<<32 - 1, 1 << 32, 1<<32 + 3, 1 << 52, 1 << 62, math.MaxInt - 1, math.MaxInt, -1, -2, -4, -256, -65536, -1 << 31, 1 - 1<<32, -1 << 32, math.MinInt, math.MinInt + 1}

// noClasses are such of classes.
var noClasses = []int{8, 9, 16, 255, 256, 257, 65536, 1 << 31, 1<<32 - 1, 1 << 32, 1<<32 + 7, 1 << 60, math.MaxInt - 1, math.MaxInt, -1, -2, -8, -256, -65536, -1 << 31, 7 - 1<<32, -1 << 32, math.MinInt, math.MinInt + 1}

// noIndexes are such of indexes, beside those at and just behind the number that there are.
var noIndexes = []int{-1, -2, -85, -256, -65536, -1 << 31, 1 - 1<<32, -1 << 32, math.MinInt, math.MinInt + 1, 86, 128, 256, 257, 65536, 1 << 28, 1 << 31, 1<<32 - 1, 1 << 32, 1<<32 + 1, 1 << 60, math.MaxInt - 1, math.MaxInt}

// noSizes are such of sizes, beside those just behind the payload.
var noSizes = []int{0, -1, -2, -16, -65536, -1 << 31, 1 - 1<<32, -1 << 32, math.MinInt, math.MinInt + 1, 257, 288, 65535, 65536, 65537, 1 << 31, 1 << 32, 1<<32 + 1, 1 << 48, math.MaxInt}

// draws are those at both ends, and beside the numbers of slots.
var draws = []uint32{0, 1, 2, 13, 14, 15, 83, 84, 85, 86, 169, 170, 255, 256, 65535, 65536, 1<<31 - 1, 1 << 31, 1<<31 + 1, math.MaxUint32 - 1, math.MaxUint32}

var states = []api.State{api.StateFree, api.StateKept, api.StateLive, api.StateHeld, api.StateGone}

// pageOf is a page of a class's region, placeOf where a slot of it begins, at its address; all by the chapters.
func pageOf(tenant, class, page int) int { return bases[tenant] + 1 + 17*class + page }

func placeOf(p api.Spot) uint32 {
	return uint32(pageOf(p.Slot, p.Class, 0)*pageBytes + p.Index*slotBytes[p.Class])
}

func at(p api.Spot) uint32 { return placeOf(p) + ends }

// memory is one in which a tenant's book is open, and so many frames are left to each tenant.
func memory(t *testing.T, tenant, frames int) *vmem.Memory {
	t.Helper()
	m, e := vmem.New(bookPages + tenants*frames + 20)
	if e != api.OK {
		t.Fatalf("New: %v", e)
	}
	want(t, "Reserve", m.Reserve(63, bookPages+20), api.OK)
	for payer := range tenants {
		want(t, "Reserve", m.Reserve(payer, frames), api.OK)
	}
	want(t, "Open", meta.Open(m, tenant, 63), api.OK)
	return m
}

// made is one in which a class of a tenant's is ready, too, and no other.
func made(t *testing.T, tenant, class int) *vmem.Memory {
	t.Helper()
	m := memory(t, tenant, regionPages)
	want(t, "Ready", slab.Ready(m, tenant, class), api.OK)
	return m
}

// whole is one in which all classes of all tenants are ready.
func whole(t *testing.T) *vmem.Memory {
	t.Helper()
	m, _ := vmem.New(tenants * (bookPages + classes*regionPages))
	m.Reserve(63, tenants*bookPages)
	for tenant := range tenants {
		m.Reserve(tenant, classes*regionPages)
		want(t, "Open", meta.Open(m, tenant, 63), api.OK)
		for class := range classes {
			want(t, "Ready", slab.Ready(m, tenant, class), api.OK)
		}
	}
	return m
}

func want(t *testing.T, what string, e, f api.Errno) {
	t.Helper()
	if e != f {
		t.Fatalf("%s: %v, want %v", what, e, f)
	}
}

func wantSame(t *testing.T, m, was *vmem.Memory, what string) {
	t.Helper()
	if !vmem.Same(m, was) {
		t.Fatalf("%s changed the memory", what)
	}
}

func wantPick(t *testing.T, m *vmem.Memory, tenant, class int, draw uint32, index int, e api.Errno) {
	t.Helper()
	if i, f := slab.Pick(m, tenant, class, draw); i != index || f != e {
		t.Fatalf("Pick(%d, %d, %d): %d %v, want %d %v", tenant, class, draw, i, f, index, e)
	}
}

func wantArm(t *testing.T, m *vmem.Memory, key uint64, p api.Spot, size int, nonce uint32, where uint32, e api.Errno) {
	t.Helper()
	if x, f := slab.Arm(m, key, p, size, nonce); x != where || f != e {
		t.Fatalf("Arm(%+v, %d): %d %v, want %d %v", p, size, x, f, where, e)
	}
}

func wantLook(t *testing.T, m *vmem.Memory, key uint64, p api.Spot, x api.Spoilt, e api.Errno) {
	t.Helper()
	if y, f := slab.Look(m, key, p); y != x || f != e {
		t.Fatalf("Look(%+v): %v %v, want %v %v", p, y, f, x, e)
	}
}

func wantLeave(t *testing.T, m *vmem.Memory, p api.Spot, is bool, e api.Errno) {
	t.Helper()
	if x, f := slab.Leave(m, p); x != is || f != e {
		t.Fatalf("Leave(%+v): %v %v, want %v %v", p, x, f, is, e)
	}
}

// put writes down what is known of a slot, get tells it.
func put(t *testing.T, m *vmem.Memory, p api.Spot, r api.Record) {
	t.Helper()
	want(t, "Put", meta.Put(m, p, r), api.OK)
}

func wantRecord(t *testing.T, m *vmem.Memory, p api.Spot, r api.Record) {
	t.Helper()
	if x, e := meta.Get(m, p); x != r || e != api.OK {
		t.Fatalf("the record of %+v: %+v %v, want %+v", p, x, e, r)
	}
}

// peek tells all bytes of a slot, poke lays bytes anywhere.
func peek(t *testing.T, m *vmem.Memory, p api.Spot) []byte {
	t.Helper()
	b, e := m.Peek(placeOf(p), slotBytes[p.Class])
	want(t, "Peek", e, api.OK)
	return b
}

func poke(t *testing.T, m *vmem.Memory, where uint32, b ...byte) {
	t.Helper()
	want(t, "Poke", m.Poke(where, b), api.OK)
}

// armed are a slot's bytes when it was armed over others.
func armed(t *testing.T, over []byte, key uint64, p api.Spot, size int, nonce uint32) []byte {
	t.Helper()
	x := api.Tag{Class: p.Class, Size: size, Nonce: nonce}
	head, e := seal.Head(key, at(p), x)
	want(t, "Head", e, api.OK)
	tail, e := seal.Tail(key, at(p), x)
	want(t, "Tail", e, api.OK)
	return slices.Concat(head, over[ends:ends+payloads[p.Class]], tail)
}

// noise are bytes none of which is 0.
func noise(many int) []byte {
	b := make([]byte, many)
	for i := range b {
		b[i] = byte(1 + i*7%255)
	}
	return b
}

// spots are the first, the last and one other slot of each tenant's classes.
func spots() []api.Spot {
	var l []api.Spot
	for tenant := range tenants {
		for class, many := range counts {
			for _, index := range []int{0, 5, many - 1} {
				l = append(l, api.Spot{Slot: tenant, Class: class, Index: index})
			}
		}
	}
	return l
}

// call is one of the calls that are of a slot: by what state it may be done.
type call struct {
	name string
	of   api.State
	does func(m *vmem.Memory, p api.Spot) (zero bool, e api.Errno)
}

func calls() []call {
	return []call{
		{"Keep", api.StateFree, func(m *vmem.Memory, p api.Spot) (bool, api.Errno) { return true, slab.Keep(m, p) }},
		{"Back", api.StateKept, func(m *vmem.Memory, p api.Spot) (bool, api.Errno) { return true, slab.Back(m, p) }},
		{"Arm", api.StateKept, func(m *vmem.Memory, p api.Spot) (bool, api.Errno) {
			x, e := slab.Arm(m, 7, p, 1, 5)
			return x == 0, e
		}},
		{"Look", api.StateLive, func(m *vmem.Memory, p api.Spot) (bool, api.Errno) {
			x, e := slab.Look(m, 7, p)
			return x == 0, e
		}},
		{"Wipe", api.StateLive, func(m *vmem.Memory, p api.Spot) (bool, api.Errno) { return true, slab.Wipe(m, p) }},
		{"Drop", api.StateLive, func(m *vmem.Memory, p api.Spot) (bool, api.Errno) { return true, slab.Drop(m, p) }},
		{"Leave", api.StateHeld, func(m *vmem.Memory, p api.Spot) (bool, api.Errno) {
			x, e := slab.Leave(m, p)
			return !x, e
		}},
	}
}

// wantAll holds what all calls of a slot, and Pick of its class, answer against an error; nothing changes.
func wantAll(t *testing.T, m *vmem.Memory, p api.Spot, e api.Errno) {
	t.Helper()
	was := m.Copy()
	for _, c := range calls() {
		zero, f := c.does(m, p)
		want(t, c.name, f, e)
		if !zero {
			t.Fatalf("%s answers something beside %v", c.name, e)
		}
	}
	if e != api.ErrRange {
		wantPick(t, m, p.Slot, p.Class, 3, 0, e)
	}
	wantSame(t, m, was, "what is refused")
}

// P16.1, P16.2, P16.3, the examples
func TestExamples(t *testing.T) {
	m := memory(t, 0, regionPages)
	p := api.Spot{Index: 1}
	wantPick(t, m, 0, 0, 0, 0, api.ErrReady)
	want(t, "Ready", slab.Ready(m, 0, 0), api.OK)
	want(t, "Ready", slab.Ready(m, 0, 0), api.ErrReady)
	wantPick(t, m, 0, 0, 86, 1, api.OK)
	wantArm(t, m, 7, p, 10, 5, 1048896, api.OK)
	wantLook(t, m, 7, p, api.SpoiltNone, api.OK)
	want(t, "Store", m.Store(0, 1048895, []byte{9}), api.OK)
	wantLook(t, m, 7, p, api.SpoiltHead, api.OK)
	want(t, "Wipe", slab.Wipe(m, p), api.OK)
	wantLeave(t, m, p, true, api.OK)
	want(t, "Back", slab.Back(m, p), api.ErrMove)
}

// P16.1: the region's pages, and no others, are the tenant's, paid by it, to be written, and all 0
func TestReady(t *testing.T) {
	for tenant := range tenants {
		for class := range classes {
			m := memory(t, tenant, regionPages+1)
			want(t, "Ready", slab.Ready(m, tenant, class), api.OK)
			var l []int
			for page := range regionPages {
				l = append(l, pageOf(tenant, class, page))
				x, is := m.Get(l[page])
				if !is || x.Owner != tenant || x.May != api.MayWrite {
					t.Fatalf("Ready(%d, %d): page %d is %+v %v", tenant, class, page, x, is)
				}
			}
			for owner := range 64 {
				mine := slices.Collect(m.Pages(owner))
				if owner == tenant && !slices.Equal(mine, l) || owner != tenant && mine != nil {
					t.Fatalf("Ready(%d, %d): %d has %v", tenant, class, owner, mine)
				}
				left := 0
				switch {
				case owner == tenant:
					left = 1
				case owner < tenants:
					left = regionPages + 1
				case owner == 63:
					left = 20
				}
				if m.Left(owner) != left {
					t.Fatalf("Ready(%d, %d): %d has %d left", tenant, class, owner, m.Left(owner))
				}
			}
			b, e := m.Load(tenant, uint32(l[0]*pageBytes), regionBytes)
			if e != api.OK || !bytes.Equal(b, make([]byte, regionBytes)) {
				t.Fatalf("Ready(%d, %d): not all 0, %v", tenant, class, e)
			}
			b, e = m.Peek(uint32(books[tenant]*pageBytes), bookPages*pageBytes)
			if e != api.OK || !bytes.Equal(b, make([]byte, bookPages*pageBytes)) {
				t.Fatalf("Ready(%d, %d): the book is not all 0, %v", tenant, class, e)
			}
		}
	}
}

// P16.1: frames that somebody wrote to are 0 in a class that they make ready
func TestReadyAnew(t *testing.T) {
	m := memory(t, 2, regionPages)
	for page := range regionPages {
		want(t, "Map", m.Map(30000+page, 1, 2, api.MayWrite), api.OK)
		poke(t, m, uint32((30000+page)*pageBytes), noise(pageBytes)...)
	}
	want(t, "Ready", slab.Ready(m, 2, 3), api.ErrLeft)
	for page := range regionPages {
		want(t, "Unmap", m.Unmap(30000+page), api.OK)
	}
	want(t, "Ready", slab.Ready(m, 2, 3), api.OK)
	b, _ := m.Load(2, uint32(pageOf(2, 3, 0)*pageBytes), regionBytes)
	if !bytes.Equal(b, make([]byte, regionBytes)) {
		t.Fatal("not all 0")
	}
}

// P16.1: ErrNil, ErrArg
func TestReadyArgs(t *testing.T) {
	for _, m := range []*vmem.Memory{nil, {}} {
		for _, tenant := range append([]int{0, 3}, noTenants...) {
			for _, class := range append([]int{0, 7}, noClasses...) {
				want(t, "Ready", slab.Ready(m, tenant, class), api.ErrNil)
				wantPick(t, m, tenant, class, 0, 0, api.ErrNil)
			}
		}
	}
	m := made(t, 0, 0)
	was := m.Copy()
	for _, tenant := range append([]int{0, 1, 3}, noTenants...) {
		for _, class := range noClasses {
			want(t, "Ready", slab.Ready(m, tenant, class), api.ErrArg)
			wantPick(t, m, tenant, class, 0, 0, api.ErrArg)
		}
	}
	for _, tenant := range noTenants {
		for class := range classes {
			want(t, "Ready", slab.Ready(m, tenant, class), api.ErrArg)
			wantPick(t, m, tenant, class, 0, 0, api.ErrArg)
		}
	}
	wantSame(t, m, was, "what may not be")
}

// P16.1: ErrNone, ahead of whether the class is ready, or frames are left
func TestReadyNone(t *testing.T) {
	for tenant := range tenants {
		for page := range bookPages {
			for _, ready := range []bool{true, false} {
				m := memory(t, tenant, page%17)
				if ready {
					m = made(t, tenant, 6)
				}
				want(t, "Unmap", m.Unmap(books[tenant]+page), api.OK)
				was := m.Copy()
				want(t, "Ready", slab.Ready(m, tenant, 6), api.ErrNone)
				want(t, "Ready", slab.Ready(m, (tenant+1)%tenants, 6), api.ErrNone)
				wantSame(t, m, was, "Ready")
				want(t, "Map", m.Map(books[tenant]+page, tenant, 63, api.MayWrite), api.OK)
				want(t, "Ready", slab.Ready(m, tenant, 6), api.ErrNone)
			}
		}
	}
}

// P16.1: ErrReady; ErrLeft, and then nothing is mapped
func TestReadyLeft(t *testing.T) {
	for tenant := range tenants {
		for left := range regionPages {
			m := memory(t, tenant, left)
			was := m.Copy()
			want(t, "Ready", slab.Ready(m, tenant, 4), api.ErrLeft)
			wantSame(t, m, was, "Ready")
		}
		// Those that others have left do not count, nor do those that nobody has reserved.
		m := memory(t, tenant, regionPages)
		want(t, "Reserve", m.Reserve(tenant, regionPages-1), api.OK)
		want(t, "Ready", slab.Ready(m, tenant, 4), api.ErrLeft)
		want(t, "Reserve", m.Reserve(tenant, regionPages), api.OK)
		want(t, "Ready", slab.Ready(m, tenant, 4), api.OK)
		was := m.Copy()
		want(t, "Ready", slab.Ready(m, tenant, 4), api.ErrReady)
		want(t, "Ready", slab.Ready(m, tenant, 5), api.ErrLeft)
		wantSame(t, m, was, "Ready")
	}
}

// P16.1: all classes of all tenants are ready side by side
func TestReadyAll(t *testing.T) {
	m := whole(t)
	for tenant := range tenants {
		if m.Left(tenant) != 0 {
			t.Fatalf("%d has %d left", tenant, m.Left(tenant))
		}
		for class := range classes {
			want(t, "Ready", slab.Ready(m, tenant, class), api.ErrReady)
		}
	}
}

// P16.1: a class of which some pages are as they must be is made ready by the others; no page is taken from whoever has it
func TestReadyPart(t *testing.T) {
	const tenant, class = 1, 2
	for many := 1; many < regionPages; many++ {
		m := memory(t, tenant, regionPages)
		for i := range many {
			want(t, "Map", m.Map(pageOf(tenant, class, (i*5+many)%regionPages), tenant, tenant, api.MayWrite), api.OK)
		}
		poke(t, m, uint32(pageOf(tenant, class, many)*pageBytes), 9)
		was := m.Copy()
		want(t, "Reserve", m.Reserve(tenant, regionPages-1), api.OK)
		want(t, "Ready", slab.Ready(m, tenant, class), api.ErrLeft)
		want(t, "Reserve", m.Reserve(tenant, regionPages), api.OK)
		wantSame(t, m, was, "Ready")
		want(t, "Ready", slab.Ready(m, tenant, class), api.OK)
		want(t, "Ready", slab.Ready(m, tenant, class), api.ErrReady)
		if b, _ := m.Peek(uint32(pageOf(tenant, class, many)*pageBytes), 1); b[0] != 9 {
			t.Fatal("a page that there was is another one")
		}
	}
	for page := range regionPages {
		for _, x := range []api.Entry{{Owner: api.Nobody, May: api.MayWrite}, {Owner: 0, May: api.MayWrite}, {Owner: 63, May: api.MayWrite}, {Owner: tenant, May: api.MayRead}, {Owner: tenant, May: api.MayNone}} {
			m := memory(t, tenant, regionPages)
			want(t, "Map", m.Map(pageOf(tenant, class, page), x.Owner, 63, x.May), api.OK)
			was := m.Copy()
			want(t, "Ready", slab.Ready(m, tenant, class), api.ErrMapped)
			wantSame(t, m, was, "Ready")
			want(t, "Ready", slab.Ready(m, tenant, class+1), api.OK)
		}
	}
}

// P16.1, P16.2, P16.3: a class is ready only if each of its pages is mapped, the tenant's, to be written
func TestUnready(t *testing.T) {
	for tenant := range tenants {
		class := 2*tenant + 1
		p := api.Spot{Slot: tenant, Class: class, Index: 4}
		for page := range regionPages {
			m := made(t, tenant, class)
			where := pageOf(tenant, class, page)
			for _, x := range states {
				put(t, m, p, api.Record{State: x})
				for _, may := range []api.May{api.MayRead, api.MayNone} {
					_, e := m.Protect(where, may)
					want(t, "Protect", e, api.OK)
					wantAll(t, m, p, api.ErrReady)
				}
				_, e := m.Protect(where, api.MayWrite)
				want(t, "Protect", e, api.OK)
			}
			want(t, "Unmap", m.Unmap(where), api.OK)
			wantAll(t, m, p, api.ErrReady)
			for _, owner := range []int{api.Nobody, (tenant + 1) % tenants, 63} {
				want(t, "Map", m.Map(where, owner, tenant, api.MayWrite), api.OK)
				wantAll(t, m, p, api.ErrReady)
				want(t, "Unmap", m.Unmap(where), api.OK)
			}
			want(t, "Ready", slab.Ready(m, tenant, class), api.OK)
			put(t, m, p, api.Record{})
			wantPick(t, m, tenant, class, 4, 4, api.OK)
		}
		m := memory(t, tenant, regionPages)
		wantAll(t, m, p, api.ErrReady)
	}
}

// P16.1: pages beside a region do not count
func TestReadyBesides(t *testing.T) {
	for tenant := range tenants {
		m := memory(t, tenant, regionPages)
		for _, page := range []int{pageOf(tenant, 3, -1), pageOf(tenant, 3, regionPages)} {
			want(t, "Map", m.Map(page, api.Nobody, 63, api.MayNone), api.OK)
		}
		want(t, "Ready", slab.Ready(m, tenant, 3), api.OK)
		wantPick(t, m, tenant, 3, 0, 0, api.OK)
		for _, class := range []int{2, 4} {
			want(t, "Ready", slab.Ready(m, tenant, class), api.ErrLeft)
		}
	}
}

// P16.1, P16.2, P16.3: ErrNil, ErrArg, ErrRange, ErrNone in this order, ahead of all others
func TestArgs(t *testing.T) {
	for _, m := range []*vmem.Memory{nil, {}} {
		for _, tenant := range []int{0, 3, 4, -1} {
			for _, class := range []int{0, 7, 8, -1} {
				for _, index := range []int{0, 13, 85, -1} {
					p := api.Spot{Slot: tenant, Class: class, Index: index}
					wantAll(t, m, p, api.ErrNil)
					wantArm(t, m, 7, p, 0, 5, 0, api.ErrNil)
				}
			}
		}
	}
	// Neither that the class is not ready, nor that the book is not open, counts ahead of what may not be.
	for _, m := range []*vmem.Memory{made(t, 0, 0), memory(t, 1, 0)} {
		for _, tenant := range append([]int{0, 1, 3}, noTenants...) {
			for _, class := range append([]int{0, 1, 7}, noClasses...) {
				for _, index := range []int{0, 13, 85, -1, math.MaxInt} {
					p := api.Spot{Slot: tenant, Class: class, Index: index}
					if slices.Contains(noTenants, tenant) || slices.Contains(noClasses, class) {
						wantAll(t, m, p, api.ErrArg)
						wantArm(t, m, 7, p, 0, 5, 0, api.ErrArg)
					}
				}
			}
		}
		for tenant := range tenants {
			for class, many := range counts {
				for _, index := range append([]int{many, many + 1, 2*many + 1}, noIndexes...) {
					p := api.Spot{Slot: tenant, Class: class, Index: index}
					wantAll(t, m, p, api.ErrRange)
					for _, size := range append([]int{payloads[class] + 1}, noSizes...) {
						wantArm(t, m, 7, p, size, 5, 0, api.ErrArg)
					}
				}
			}
		}
	}
	for tenant := range tenants {
		for page := range bookPages {
			m := made(t, tenant, 7)
			want(t, "Unmap", m.Unmap(books[tenant]+page), api.OK)
			for _, index := range []int{0, 13} {
				p := api.Spot{Slot: tenant, Class: 7, Index: index}
				wantAll(t, m, p, api.ErrNone)
				wantArm(t, m, 7, p, 0, 5, 0, api.ErrArg)
				p.Class = 6
				wantAll(t, m, p, api.ErrNone)
			}
		}
	}
}

// P16.1: of those that are free, rising, that which a draw picks
func TestPick(t *testing.T) {
	for tenant := range tenants {
		for class, many := range counts {
			for _, draw := range draws {
				m := made(t, tenant, class)
				index := int(draw % uint32(many))
				was := m.Copy()
				put(t, was, api.Spot{Slot: tenant, Class: class, Index: index}, api.Record{State: api.StateKept})
				wantPick(t, m, tenant, class, draw, index, api.OK)
				wantSame(t, m, was, "Pick's record is the one change; something else")
			}
		}
	}
}

// P16.1: all that are free are picked, each once; then ErrFull
func TestPickAll(t *testing.T) {
	for class, many := range counts {
		m := made(t, 3, class)
		var free []int
		for index := range many {
			free = append(free, index)
		}
		for i := range many {
			draw := draws[i%len(draws)] + uint32(i)
			k := int(draw % uint32(len(free)))
			wantPick(t, m, 3, class, draw, free[k], api.OK)
			free = slices.Delete(free, k, k+1)
		}
		was := m.Copy()
		for _, draw := range draws {
			wantPick(t, m, 3, class, draw, 0, api.ErrFull)
		}
		wantSame(t, m, was, "Pick")
		p := api.Spot{Slot: 3, Class: class, Index: many / 2}
		want(t, "Back", slab.Back(m, p), api.OK)
		wantPick(t, m, 3, class, math.MaxUint32, many/2, api.OK)
	}
}

// P16.1: what is free is told by the records, all of them
func TestPickFree(t *testing.T) {
	r := rand.New(rand.NewSource(16))
	for range 400 {
		tenant, class := r.Intn(tenants), r.Intn(classes)
		m := made(t, tenant, class)
		var free []int
		few := 1 + r.Intn(5)
		for index := range counts[class] {
			x := api.Record{State: api.State(r.Intn(5)), Size: r.Intn(3), Nonce: r.Uint32()}
			if r.Intn(few) > 0 {
				x.State = api.StateGone
			}
			put(t, m, api.Spot{Slot: tenant, Class: class, Index: index}, x)
			if x.State == api.StateFree {
				free = append(free, index)
			}
		}
		draw := r.Uint32()
		if len(free) == 0 {
			wantPick(t, m, tenant, class, draw, 0, api.ErrFull)
			continue
		}
		index := free[draw%uint32(len(free))]
		was := m.Copy()
		put(t, was, api.Spot{Slot: tenant, Class: class, Index: index}, api.Record{State: api.StateKept})
		wantPick(t, m, tenant, class, draw, index, api.OK)
		wantSame(t, m, was, "Pick's record is the one change; something else")
	}
}

// P16.1, P16.2, P16.3: each call of slots in each state: ErrMove, and nothing changes; or the one record, and the slot's bytes
func TestStates(t *testing.T) {
	then := map[string]api.Record{
		"Keep": {State: api.StateKept}, "Back": {}, "Arm": {State: api.StateLive, Size: 1, Nonce: 5}, "Look": {State: api.StateLive, Size: 3, Nonce: 9},
		"Wipe": {State: api.StateHeld}, "Drop": {State: api.StateGone}, "Leave": {State: api.StateGone},
	}
	for _, p := range spots() {
		m := made(t, p.Slot, p.Class)
		poke(t, m, uint32(pageOf(p.Slot, p.Class, 0)*pageBytes), noise(regionBytes)...)
		for index := range counts[p.Class] {
			put(t, m, api.Spot{Slot: p.Slot, Class: p.Class, Index: index}, api.Record{State: states[index%5], Size: index, Nonce: 77})
		}
		for _, x := range states {
			put(t, m, p, api.Record{State: x, Size: 3, Nonce: 9})
			for _, c := range calls() {
				now, was := m.Copy(), m.Copy()
				zero, e := c.does(now, p)
				if x != c.of {
					want(t, c.name, e, api.ErrMove)
					wantSame(t, now, m, c.name)
					if !zero {
						t.Fatalf("%s answers something beside an error", c.name)
					}
					continue
				}
				want(t, c.name, e, api.OK)
				put(t, was, p, then[c.name])
				switch c.name {
				case "Arm":
					poke(t, was, placeOf(p), armed(t, peek(t, m, p), 7, p, 1, 5)...)
				case "Wipe":
					poke(t, was, placeOf(p), make([]byte, slotBytes[p.Class])...)
				}
				wantSame(t, now, was, c.name+": more than that")
			}
		}
	}
}

// P16.2: its address, its record, its head and tail; its payload stays, and so does all else
func TestArm(t *testing.T) {
	for _, key := range []uint64{0, 7, 1 << 63, top} {
		for _, p := range spots() {
			for _, nonce := range []uint32{0, 5, math.MaxUint32} {
				for _, size := range []int{1, 2, payloads[p.Class] - 1, payloads[p.Class]} {
					m := made(t, p.Slot, p.Class)
					want(t, "Keep", slab.Keep(m, p), api.OK)
					was := m.Copy()
					wantArm(t, m, key, p, size, nonce, at(p), api.OK)
					put(t, was, p, api.Record{State: api.StateLive, Size: size, Nonce: nonce})
					poke(t, was, placeOf(p), armed(t, peek(t, was, p), key, p, size, nonce)...)
					wantSame(t, m, was, "Arm: more than that")
					wantLook(t, m, key, p, api.SpoiltNone, api.OK)
					if q, e := meta.Find(at(p)); q != p || e != api.OK {
						t.Fatalf("%d is %+v %v", at(p), q, e)
					}
				}
			}
		}
	}
}

// P16.2: each size that may be
func TestArmSizes(t *testing.T) {
	for class, room := range payloads {
		m := made(t, 2, class)
		p := api.Spot{Slot: 2, Class: class, Index: counts[class] - 1}
		was := m.Copy()
		for _, size := range append([]int{room + 1, room + 16, slotBytes[class]}, noSizes...) {
			wantArm(t, m, 7, p, size, 5, 0, api.ErrArg)
		}
		wantSame(t, m, was, "Arm")
		for size := 1; size <= room; size++ {
			wantArm(t, m, 7, p, size, 5, 0, api.ErrMove)
			put(t, m, p, api.Record{State: api.StateKept})
			wantArm(t, m, 7, p, size, 5, at(p), api.OK)
			wantRecord(t, m, p, api.Record{State: api.StateLive, Size: size, Nonce: 5})
			wantLook(t, m, 7, p, api.SpoiltNone, api.OK)
		}
	}
}

// P16.2, P16.4: each other byte of head and tail is told, none of the payload, none of other slots
func TestLook(t *testing.T) {
	for class := range classes {
		for _, index := range []int{0, 1, counts[class] - 1} {
			p := api.Spot{Slot: class % tenants, Class: class, Index: index}
			m := made(t, p.Slot, class)
			want(t, "Keep", slab.Keep(m, p), api.OK)
			wantArm(t, m, 99, p, payloads[class], 4, at(p), api.OK)
			from := uint32(pageOf(p.Slot, class, 0) * pageBytes)
			for place := range uint32(regionBytes) {
				b, _ := m.Load(p.Slot, from+place, 1)
				x := api.SpoiltNone
				switch k := int(from+place) - int(placeOf(p)); {
				case k >= 0 && k < ends:
					x = api.SpoiltHead
				case k >= ends+payloads[class] && k < slotBytes[class]:
					x = api.SpoiltTail
				}
				for _, flip := range []byte{1, 0x80, 0xFF} {
					want(t, "Store", m.Store(p.Slot, from+place, []byte{b[0] ^ flip}), api.OK)
					wantLook(t, m, 99, p, x, api.OK)
				}
				want(t, "Store", m.Store(p.Slot, from+place, b), api.OK)
			}
			wantLook(t, m, 99, p, api.SpoiltNone, api.OK)
		}
	}
}

// P16.2: the head ahead of the tail; another key, and another record, are told by the head
func TestLookBoth(t *testing.T) {
	p := api.Spot{Slot: 1, Class: 4, Index: 6}
	m := made(t, 1, 4)
	want(t, "Keep", slab.Keep(m, p), api.OK)
	wantArm(t, m, 99, p, 50, 4, at(p), api.OK)
	was := m.Copy()
	wantLook(t, m, 98, p, api.SpoiltHead, api.OK)
	wantLook(t, m, 99, p, api.SpoiltNone, api.OK)
	wantSame(t, m, was, "Look")
	poke(t, m, at(p)+96, noise(ends)...)
	wantLook(t, m, 99, p, api.SpoiltTail, api.OK)
	poke(t, m, placeOf(p), noise(ends)...)
	wantLook(t, m, 99, p, api.SpoiltHead, api.OK)
	m = was.Copy()
	for _, x := range []api.Record{{State: api.StateLive, Size: 51, Nonce: 4}, {State: api.StateLive, Size: 50, Nonce: 5}, {State: api.StateLive}, {State: api.StateLive, Size: 65535, Nonce: 4}} {
		put(t, m, p, x)
		wantLook(t, m, 99, p, api.SpoiltHead, api.OK)
	}
	put(t, m, p, api.Record{State: api.StateLive, Size: 50, Nonce: 4})
	wantLook(t, m, 99, p, api.SpoiltNone, api.OK)
	// A head and a tail that were another slot's are no more this one's than those that this one had as it was armed otherwise.
	b := peek(t, m, p)
	q := api.Spot{Slot: 1, Class: 4, Index: 7}
	want(t, "Keep", slab.Keep(m, q), api.OK)
	wantArm(t, m, 99, q, 50, 4, at(q), api.OK)
	poke(t, m, placeOf(q), b...)
	wantLook(t, m, 99, q, api.SpoiltHead, api.OK)
	want(t, "Wipe", slab.Wipe(m, p), api.OK)
	wantLeave(t, m, p, true, api.OK)
	want(t, "Keep", slab.Keep(m, p), api.OK)
	wantArm(t, m, 99, p, 50, 3, at(p), api.OK)
	poke(t, m, placeOf(p), b...)
	wantLook(t, m, 99, p, api.SpoiltHead, api.OK)
}

// P16.3, P16.4: a slot that is let go is free if each of its bytes is 0; other slots' bytes do not count
func TestLeave(t *testing.T) {
	for class := range classes {
		for _, index := range []int{0, 1, counts[class] - 1} {
			p := api.Spot{Slot: 3 - class%tenants, Class: class, Index: index}
			m := made(t, p.Slot, class)
			poke(t, m, uint32(pageOf(p.Slot, class, 0)*pageBytes), noise(regionBytes)...)
			put(t, m, p, api.Record{State: api.StateLive, Size: 3, Nonce: 4})
			want(t, "Wipe", slab.Wipe(m, p), api.OK)
			wantRecord(t, m, p, api.Record{State: api.StateHeld})
			from := uint32(pageOf(p.Slot, class, 0) * pageBytes)
			for place := range uint32(regionBytes) {
				mine := from+place >= placeOf(p) && from+place < placeOf(p)+uint32(slotBytes[class])
				b, _ := m.Load(p.Slot, from+place, 1)
				want(t, "Store", m.Store(p.Slot, from+place, []byte{1 << (place % 8)}), api.OK)
				var was *vmem.Memory
				if mine || place%64 == 0 {
					was = m.Copy()
				}
				wantLeave(t, m, p, !mine, api.OK)
				x := api.Record{State: api.StateFree}
				if mine {
					x.State = api.StateGone
				}
				if was != nil {
					put(t, was, p, x)
					wantSame(t, m, was, "Leave: more than that")
				}
				wantRecord(t, m, p, x)
				put(t, m, p, api.Record{State: api.StateHeld})
				want(t, "Store", m.Store(p.Slot, from+place, b), api.OK)
			}
		}
	}
}

// P16.1 to P16.4: a slot of which no record tells what it is is none that is picked, and none to which something is done; the others stay what they are
func TestNoRecord(t *testing.T) {
	for tenant := range tenants {
		for class, many := range counts {
			m := made(t, tenant, class)
			where := func(index int) uint32 {
				return uint32((books[tenant]+3*class)*pageBytes + 8*index)
			}
			p := api.Spot{Slot: tenant, Class: class, Index: 2}
			for _, b := range [][]byte{{5, 0}, {255, 0}, {0, 1}, {2, 255}} {
				poke(t, m, where(2), b...)
				was := m.Copy()
				for _, c := range calls() {
					zero, e := c.does(m, p)
					want(t, c.name, e, api.ErrMove)
					if !zero {
						t.Fatalf("%s answers something beside an error", c.name)
					}
				}
				wantSame(t, m, was, "what is refused")
			}
			put(t, m, api.Spot{Slot: tenant, Class: class, Index: 4}, api.Record{State: api.StateLive, Size: 1})
			want(t, "Keep", slab.Keep(m, api.Spot{Slot: tenant, Class: class, Index: 0}), api.OK)
			wantPick(t, m, tenant, class, 1, 3, api.OK)
			wantPick(t, m, tenant, class, uint32(many)-5, many-1, api.OK)
			for index := range many {
				poke(t, m, where(index), 9)
			}
			was := m.Copy()
			wantPick(t, m, tenant, class, 1, 0, api.ErrFull)
			wantSame(t, m, was, "Pick")
			// What stands elsewhere in the book does not count.
			put(t, m, p, api.Record{})
			wantPick(t, m, tenant, class, 5, 2, api.OK)
		}
	}
}

// P16.4: copies go on apart
func TestCopies(t *testing.T) {
	m := made(t, 0, 0)
	n := m.Copy()
	wantPick(t, m, 0, 0, 0, 0, api.OK)
	wantPick(t, m, 0, 0, 0, 1, api.OK)
	wantPick(t, n, 0, 0, 0, 0, api.OK)
	wantArm(t, m, 7, api.Spot{}, 16, 1, 1048848, api.OK)
	want(t, "Back", slab.Back(n, api.Spot{}), api.OK)
	want(t, "Wipe", slab.Wipe(n, api.Spot{}), api.ErrMove)
	wantSame(t, n, made(t, 0, 0), "what was done to the other one")
}

// facts are what is known of all slots of all tenants, and their bytes, apart from the program.
type facts struct {
	known [tenants][classes][]api.Record
	bytes [tenants][classes][]byte
}

func factsOf() *facts {
	f := &facts{}
	for tenant := range tenants {
		for class, many := range counts {
			f.known[tenant][class] = make([]api.Record, many)
			f.bytes[tenant][class] = make([]byte, regionBytes)
		}
	}
	return f
}

// of are a slot's bytes among them.
func (f *facts) of(p api.Spot) []byte {
	from := p.Index * slotBytes[p.Class]
	return f.bytes[p.Slot][p.Class][from : from+slotBytes[p.Class]]
}

// hold holds the whole memory against them.
func (f *facts) hold(t *testing.T, m *vmem.Memory) {
	t.Helper()
	for tenant := range tenants {
		book := make([]byte, bookPages*pageBytes)
		for class := range classes {
			for index, x := range f.known[tenant][class] {
				copy(book[3*class*pageBytes+8*index:], []byte{byte(x.State), 0, byte(x.Size), byte(x.Size >> 8), byte(x.Nonce), byte(x.Nonce >> 8), byte(x.Nonce >> 16), byte(x.Nonce >> 24)})
			}
			b, _ := m.Peek(uint32(pageOf(tenant, class, 0)*pageBytes), regionBytes)
			if !bytes.Equal(b, f.bytes[tenant][class]) {
				t.Fatalf("the region of %d %d is another one", tenant, class)
			}
		}
		b, _ := m.Peek(uint32(books[tenant]*pageBytes), bookPages*pageBytes)
		if !bytes.Equal(b, book) {
			t.Fatalf("the book of %d is another one", tenant)
		}
	}
}

// one does a call that is drawn, of a slot that is, to both.
func (f *facts) one(t *testing.T, r *rand.Rand, m *vmem.Memory, p api.Spot) {
	t.Helper()
	x := &f.known[p.Slot][p.Class][p.Index]
	b := f.of(p)
	// next is the record of a slot that was such, or that it stays.
	next := func(was api.State, then api.Record) api.Errno {
		if x.State != was {
			return api.ErrMove
		}
		*x = then
		return api.OK
	}
	switch r.Intn(10) {
	case 0:
		want(t, "Keep", slab.Keep(m, p), next(api.StateFree, api.Record{State: api.StateKept}))
	case 1:
		want(t, "Back", slab.Back(m, p), next(api.StateKept, api.Record{}))
	case 2, 3:
		size, nonce, where := 1+r.Intn(payloads[p.Class]), r.Uint32(), uint32(0)
		e := next(api.StateKept, api.Record{State: api.StateLive, Size: size, Nonce: nonce})
		if e == api.OK {
			where = at(p)
			copy(b, armed(t, b, 7, p, size, nonce))
		}
		wantArm(t, m, 7, p, size, nonce, where, e)
	case 4:
		e, spoilt := next(api.StateLive, *x), api.SpoiltNone
		if e == api.OK {
			l := armed(t, b, 7, p, x.Size, x.Nonce)
			if tail := slotBytes[p.Class] - ends; !bytes.Equal(l[tail:], b[tail:]) {
				spoilt = api.SpoiltTail
			}
			if !bytes.Equal(l[:ends], b[:ends]) {
				spoilt = api.SpoiltHead
			}
		}
		wantLook(t, m, 7, p, spoilt, e)
	case 5, 6:
		e := next(api.StateLive, api.Record{State: api.StateHeld})
		want(t, "Wipe", slab.Wipe(m, p), e)
		if e == api.OK {
			clear(b)
		}
	case 7:
		if r.Intn(4) == 0 {
			want(t, "Drop", slab.Drop(m, p), next(api.StateLive, api.Record{State: api.StateGone}))
		}
	case 8:
		clean := bytes.Equal(b, make([]byte, len(b)))
		then := api.Record{State: api.StateGone}
		if clean {
			then.State = api.StateFree
		}
		e := next(api.StateHeld, then)
		wantLeave(t, m, p, clean && e == api.OK, e)
	default:
		place := r.Intn(len(b))
		b[place] = byte(r.Intn(2) * r.Intn(256))
		want(t, "Store", m.Store(p.Slot, placeOf(p)+uint32(place), b[place:place+1]), api.OK)
	}
}

// P16.1 to P16.4: calls in any order, held against plain facts
func TestAnyOrder(t *testing.T) {
	for seed := range int64(6) {
		r := rand.New(rand.NewSource(seed))
		m, f := whole(t), factsOf()
		for i := range 12000 {
			// Few slots, so that each goes through many states; now and then any.
			p := api.Spot{Slot: r.Intn(tenants), Class: r.Intn(classes), Index: 3 + r.Intn(2)}
			if r.Intn(8) == 0 {
				p.Index = r.Intn(counts[p.Class])
			}
			if r.Intn(20) > 0 {
				f.one(t, r, m, p)
			} else {
				var free []int
				for index, x := range f.known[p.Slot][p.Class] {
					if x.State == api.StateFree {
						free = append(free, index)
					}
				}
				draw, index, e := r.Uint32(), 0, api.ErrFull
				if len(free) > 0 {
					index, e = free[draw%uint32(len(free))], api.OK
					f.known[p.Slot][p.Class][index] = api.Record{State: api.StateKept}
				}
				wantPick(t, m, p.Slot, p.Class, draw, index, e)
			}
			if i%200 == 0 {
				f.hold(t, m)
			}
		}
		f.hold(t, m)
	}
}
