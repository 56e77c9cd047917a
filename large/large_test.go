package large_test

import (
	"bytes"
	"iter"
	"math"
	"math/rand"
	"slices"
	"testing"

	"pinfold/api"
	"pinfold/large"
	"pinfold/meta"
	"pinfold/vmem"
)

const (
	tenants   = 4
	pageBytes = 256
	bookPages = 48
	records   = 384
	most      = 1024
	payer     = 63
	spare     = 20
	// greatPages are as many as a window has from the first great one on; all but the first and the last may be one piece's, were it not for most.
	greatPages = 3840
)

// books are the first pages of the tenants' books, greats those of their great pages.
var (
	books  = [tenants]int{1, 65, 129, 193}
	greats = [tenants]int{4352, 8448, 12544, 16640}
)

// noTenants are those just beyond both ends, and those that a narrower kind would cut to one that there is.
var noTenants = []int{4, 5, 62, 63, 64, 255, 256, 257, 65536, 1 << 31, 1<<32 - 1, 1 << 32, 1<<32 + 3, 1 << 52, 1 << 62, math.MaxInt - 1, math.MaxInt, -1, -2, -4, -256, -65536, -1 << 31, 1 - 1<<32, -1 << 32, math.MinInt, math.MinInt + 1}

// noPages are such of pages.
var noPages = []int{0, 1025, 1026, 2048, 3838, 3839, 65535, 65536, 65537, 1 << 24, 1 << 31, 1<<32 - 1, 1 << 32, 1<<32 + 1, 1 << 55, 1<<56 + 1, 1 << 62, math.MaxInt - 1, math.MaxInt, -1, -2, -1024, -65536, -1 << 31, 1 - 1<<32, -1 << 32, math.MinInt, math.MinInt + 1}

// noSizes are such of sizes, beside those just behind a piece's pages.
var noSizes = []int{0, -1, -2, -255, -256, -257, -65536, -1 << 31, 1 - 1<<32, -1 << 32, math.MinInt, math.MinInt + 1, most*pageBytes + 1, 1 << 31, 1<<32 - 1, 1 << 32, 1<<32 + 1, 1 << 48, math.MaxInt - 255, math.MaxInt - 1, math.MaxInt}

// addressOf is where a tenant's great page begins, counted from the first one on; all by the chapters.
func addressOf(tenant, page int) uint32 { return uint32((greats[tenant] + page) * pageBytes) }

// memory is one in which all tenants' books are open, and so many frames are left to each tenant.
func memory(t *testing.T, frames int) *vmem.Memory {
	t.Helper()
	m, e := vmem.New(tenants*(bookPages+frames) + spare)
	want(t, "New", e, api.OK)
	want(t, "Reserve", m.Reserve(payer, tenants*bookPages+spare), api.OK)
	for tenant := range tenants {
		want(t, "Reserve", m.Reserve(tenant, frames), api.OK)
		want(t, "Open", meta.Open(m, tenant, payer), api.OK)
	}
	return m
}

func want(t *testing.T, what string, e, f api.Errno) {
	t.Helper()
	if e != f {
		t.Fatalf("%s: %v, want %v", what, e, f)
	}
}

func wantSame(t *testing.T, m, was *vmem.Memory, what string) {
	t.Helper()
	if !vmem.Same(m, was) {
		t.Fatalf("%s: the memory is another one", what)
	}
}

func wantTake(t *testing.T, m *vmem.Memory, tenant, pages, size int, at uint32, e api.Errno) {
	t.Helper()
	if x, f := large.Take(m, tenant, pages, size); x != at || f != e {
		t.Fatalf("Take(%d, %d, %d): %d %v, want %d %v", tenant, pages, size, x, f, at, e)
	}
}

func wantGive(t *testing.T, m *vmem.Memory, tenant int, at uint32, g api.Great, e api.Errno) {
	t.Helper()
	if x, f := large.Give(m, tenant, at); x != g || f != e {
		t.Fatalf("Give(%d, %d): %+v %v, want %+v %v", tenant, at, x, f, g, e)
	}
}

func wantGet(t *testing.T, m *vmem.Memory, tenant int, at uint32, g api.Great, e api.Errno) {
	t.Helper()
	if x, f := large.Get(m, tenant, at); x != g || f != e {
		t.Fatalf("Get(%d, %d): %+v %v, want %+v %v", tenant, at, x, f, g, e)
	}
}

func wantResize(t *testing.T, m *vmem.Memory, tenant int, at uint32, size, was int, e api.Errno) {
	t.Helper()
	if x, f := large.Resize(m, tenant, at, size); x != was || f != e {
		t.Fatalf("Resize(%d, %d, %d): %d %v, want %d %v", tenant, at, size, x, f, was, e)
	}
}

func wantRoom(t *testing.T, m *vmem.Memory, tenant, left, pages int, e api.Errno) {
	t.Helper()
	if x, y, f := large.Room(m, tenant); x != left || y != pages || f != e {
		t.Fatalf("Room(%d): %d %d %v, want %d %d %v", tenant, x, y, f, left, pages, e)
	}
}

// told is what an iterator tells, of at most so many.
type told struct {
	at uint32
	api.Great
}

func collect(all iter.Seq2[uint32, api.Great], many int) []told {
	var l []told
	for at, g := range all {
		if len(l) == many {
			break
		}
		l = append(l, told{at, g})
	}
	return l
}

func wantAll(t *testing.T, m *vmem.Memory, tenant int, l ...told) {
	t.Helper()
	if x := collect(large.All(m, tenant), records+1); !slices.Equal(x, l) {
		t.Fatalf("All(%d): %+v, want %+v", tenant, x, l)
	}
}

// live is the record of a live piece of a tenant's, whose first page is that great page.
func live(tenant, page, pages, size int) api.Great {
	return api.Great{State: api.StateLive, Pages: pages, Size: size, First: greats[tenant] + page}
}

// gone is what it is then.
func gone(g api.Great) api.Great {
	g.State = api.StateGone
	return g
}

func put(t *testing.T, m *vmem.Memory, tenant, index int, g api.Great) {
	t.Helper()
	want(t, "PutGreat", meta.PutGreat(m, tenant, index, g), api.OK)
}

// wantBook holds all great records of a tenant's against those: behind them all are 0.
func wantBook(t *testing.T, m *vmem.Memory, tenant int, l ...api.Great) {
	t.Helper()
	for index := range records {
		var g api.Great
		if index < len(l) {
			g = l[index]
		}
		if x, e := meta.GetGreat(m, tenant, index); x != g || e != api.OK {
			t.Fatalf("the record %d of %d: %+v %v, want %+v", index, tenant, x, e, g)
		}
	}
}

// wantPages holds the pages that somebody has against those of a run, that are to be written.
func wantPages(t *testing.T, m *vmem.Memory, owner, from, many int) {
	t.Helper()
	var l []int
	for page := range many {
		l = append(l, from+page)
		if x, is := m.Get(from + page); !is || x.Owner != owner || x.May != api.MayWrite {
			t.Fatalf("page %d is %+v %v", from+page, x, is)
		}
	}
	if x := slices.Collect(m.Pages(owner)); !slices.Equal(x, l) {
		t.Fatalf("%d has %v, want %v", owner, x, l)
	}
}

// noise are bytes none of which is 0.
func noise(many int) []byte {
	b := make([]byte, many)
	for i := range b {
		b[i] = byte(1 + i*7%255)
	}
	return b
}

func store(t *testing.T, m *vmem.Memory, tenant int, at uint32, b []byte) {
	t.Helper()
	want(t, "Store", m.Store(tenant, at, b), api.OK)
}

func wantBytes(t *testing.T, m *vmem.Memory, tenant int, at uint32, b []byte) {
	t.Helper()
	x, e := m.Load(tenant, at, len(b))
	if e != api.OK || !bytes.Equal(x, b) {
		t.Fatalf("%d bytes at %d are others, %v", len(b), at, e)
	}
}

// wantRefused holds what all calls answer of what is no piece of a tenant's against an error; nothing changes.
func wantRefused(t *testing.T, m *vmem.Memory, tenant int, at uint32, e api.Errno) {
	t.Helper()
	was := m.Copy()
	wantGive(t, m, tenant, at, api.Great{}, e)
	wantGet(t, m, tenant, at, api.Great{}, e)
	for _, size := range []int{1, 256, 0, -1, math.MaxInt} {
		wantResize(t, m, tenant, at, size, 0, e)
	}
	if was != nil {
		wantSame(t, m, was, "what is refused")
	}
}

// P17.1, P17.2, the examples
func TestExamples(t *testing.T) {
	m := memory(t, 9)
	wantTake(t, m, 0, 2, 300, 1114368, api.OK)
	wantTake(t, m, 0, 1, 1, 1115136, api.OK)
	wantGet(t, m, 0, 1114368, api.Great{State: api.StateLive, Pages: 2, Size: 300, First: 4353}, api.OK)
	wantGet(t, m, 0, 1114369, api.Great{}, api.ErrPiece)
	wantGive(t, m, 0, 1114368, api.Great{State: api.StateLive, Pages: 2, Size: 300, First: 4353}, api.OK)
	wantGive(t, m, 0, 1114368, api.Great{}, api.ErrPiece)
	wantTake(t, m, 0, 1, 256, 1115648, api.OK)
}

// P17.1: the piece's pages, and no others, are the tenant's, paid by it, to be written, and all 0; its record, and no other byte of a book, tells it
func TestTake(t *testing.T) {
	for tenant := range tenants {
		for _, pages := range []int{1, 2, 3, 17, 1023, 1024} {
			for _, size := range []int{1, 2, 255, 256, 257, pages*pageBytes - 1, pages * pageBytes} {
				if size > pages*pageBytes {
					continue
				}
				m := memory(t, pages+1)
				wantTake(t, m, tenant, pages, size, addressOf(tenant, 1), api.OK)
				wantPages(t, m, tenant, greats[tenant]+1, pages)
				wantBytes(t, m, tenant, addressOf(tenant, 1), make([]byte, pages*pageBytes))
				for owner := range tenants {
					if owner == tenant {
						wantBook(t, m, owner, live(tenant, 1, pages, size))
						if m.Left(owner) != 1 {
							t.Fatalf("%d has %d left", owner, m.Left(owner))
						}
						continue
					}
					wantBook(t, m, owner)
					wantPages(t, m, owner, 0, 0)
					wantRefused(t, m, owner, addressOf(tenant, 1), api.ErrPiece)
					if m.Left(owner) != pages+1 {
						t.Fatalf("%d has %d left", owner, m.Left(owner))
					}
					_, e := m.Load(owner, addressOf(tenant, 1), 1)
					want(t, "Load", e, api.ErrFault)
				}
				small, _ := m.Peek(uint32(books[tenant]*pageBytes), 24*pageBytes)
				if m.Left(payer) != spare || !bytes.Equal(small, make([]byte, 24*pageBytes)) {
					t.Fatal("more has changed than that")
				}
				wantGet(t, m, tenant, addressOf(tenant, 1), live(tenant, 1, pages, size), api.OK)
			}
		}
	}
}

// P17.1: each number of pages, with its least and its greatest size
func TestTakePages(t *testing.T) {
	for pages := 1; pages <= most; pages++ {
		tenant := pages % tenants
		m, _ := vmem.New(bookPages + most)
		m.Reserve(tenant, bookPages+most)
		want(t, "Open", meta.Open(m, tenant, tenant), api.OK)
		was := m.Copy()
		wantTake(t, m, tenant, pages, pages*pageBytes+1, 0, api.ErrArg)
		wantTake(t, m, tenant, pages, 0, 0, api.ErrArg)
		wantSame(t, m, was, "Take")
		size := pages * pageBytes
		if pages%3 == 0 {
			size = 1
		}
		wantTake(t, m, tenant, pages, size, addressOf(tenant, 1), api.OK)
		wantPages(t, m, tenant, greats[tenant]+1, pages)
		if m.Left(tenant) != most-pages {
			t.Fatalf("%d are left", m.Left(tenant))
		}
	}
}

// P17.1: ErrNil, ErrArg
func TestTakeArgs(t *testing.T) {
	for _, m := range []*vmem.Memory{nil, {}} {
		for _, tenant := range append([]int{0, 3}, noTenants...) {
			for _, pages := range append([]int{1, 2, most}, noPages...) {
				wantTake(t, m, tenant, pages, 1, 0, api.ErrNil)
				wantTake(t, m, tenant, pages, 0, 0, api.ErrNil)
			}
		}
	}
	shut, _ := vmem.New(0)
	spent := memory(t, 5)
	for tenant := range tenants {
		put(t, spent, tenant, 0, gone(live(tenant, 1, greatPages-2, 1)))
	}
	// Neither that the book is not open, nor that the window is spent, nor that no frame is left counts ahead of what may not be.
	for _, m := range []*vmem.Memory{shut, spent, memory(t, 0), memory(t, 5)} {
		was := m.Copy()
		for _, tenant := range noTenants {
			for _, pages := range append([]int{1, 2, most}, noPages...) {
				wantTake(t, m, tenant, pages, 1, 0, api.ErrArg)
				wantTake(t, m, tenant, pages, 0, 0, api.ErrArg)
			}
		}
		for tenant := range tenants {
			for _, pages := range noPages {
				for _, size := range append([]int{1, 2, 256, most * pageBytes}, noSizes...) {
					wantTake(t, m, tenant, pages, size, 0, api.ErrArg)
				}
			}
			for _, pages := range []int{1, 2, 5, 1000, most} {
				for _, size := range append([]int{pages*pageBytes + 1, (pages + 1) * pageBytes, 2 * pages * pageBytes}, noSizes...) {
					wantTake(t, m, tenant, pages, size, 0, api.ErrArg)
				}
			}
		}
		wantSame(t, m, was, "what may not be")
	}
}

// P17.1, P17.2: ErrNone, ahead of all that is asked behind it; a book is open only if each of its pages is mapped, nobody's
func TestNone(t *testing.T) {
	for tenant := range tenants {
		for page := range bookPages {
			m := memory(t, 4)
			wantTake(t, m, tenant, 2, 300, addressOf(tenant, 1), api.OK)
			for _, owner := range []int{-2, tenant, payer} {
				if owner == -2 {
					want(t, "Unmap", m.Unmap(books[tenant]+page), api.OK)
				} else {
					want(t, "Map", m.Map(books[tenant]+page, owner, payer, api.MayWrite), api.OK)
				}
				was := m.Copy()
				wantTake(t, m, tenant, 1, 1, 0, api.ErrNone)
				wantTake(t, m, tenant, 4, 1, 0, api.ErrNone)
				wantTake(t, m, tenant, 4, 0, 0, api.ErrArg)
				wantGive(t, m, tenant, addressOf(tenant, 1), api.Great{}, api.ErrNone)
				wantGet(t, m, tenant, addressOf(tenant, 1), api.Great{}, api.ErrNone)
				wantGet(t, m, tenant, addressOf(tenant, 2), api.Great{}, api.ErrNone)
				wantResize(t, m, tenant, addressOf(tenant, 1), 5, 0, api.ErrNone)
				wantResize(t, m, tenant, addressOf(tenant, 1), 0, 0, api.ErrNone)
				wantRoom(t, m, tenant, 0, 0, api.ErrNone)
				wantAll(t, m, tenant)
				wantSame(t, m, was, "what is refused")
				if owner != -2 {
					want(t, "Unmap", m.Unmap(books[tenant]+page), api.OK)
				}
			}
			wantTake(t, m, (tenant+1)%tenants, 1, 1, addressOf((tenant+1)%tenants, 1), api.OK)
		}
	}
}

// P17.1: ErrLeft, and then nothing is mapped, and no record is spent
func TestTakeLeft(t *testing.T) {
	for _, pages := range []int{1, 2, 5, most} {
		for _, left := range []int{0, 1, pages / 2, pages - 1} {
			m := memory(t, min(left, pages-1))
			was := m.Copy()
			wantTake(t, m, 2, pages, 1, 0, api.ErrLeft)
			wantSame(t, m, was, "Take")
			wantRoom(t, m, 2, records, most, api.OK)
		}
		// Those that others have left do not count, nor do those that nobody has reserved.
		m := memory(t, pages)
		want(t, "Reserve", m.Reserve(2, pages-1), api.OK)
		wantTake(t, m, 2, pages, 1, 0, api.ErrLeft)
		want(t, "Reserve", m.Reserve(2, pages), api.OK)
		wantTake(t, m, 2, pages, 1, addressOf(2, 1), api.OK)
		wantTake(t, m, 2, 1, 1, 0, api.ErrLeft)
		wantTake(t, m, 1, pages, 1, addressOf(1, 1), api.OK)
		wantGive(t, m, 2, addressOf(2, 1), live(2, 1, pages, 1), api.OK)
		// What did not come has taken no place.
		wantTake(t, m, 2, pages, 1, addressOf(2, pages+2), api.OK)
	}
}

// P17.1: ErrSpent, if a piece, and the page behind it, would not lie below the great pages' end
func TestTakeSpent(t *testing.T) {
	for tenant := range tenants {
		m := memory(t, most)
		page := 1
		for _, pages := range []int{1024, 1000, 1024, 5} {
			wantTake(t, m, tenant, pages, pages, addressOf(tenant, page), api.OK)
			wantGive(t, m, tenant, addressOf(tenant, page), live(tenant, page, pages, pages), api.OK)
			page += pages + 1
		}
		// The last one that goes ends two pages ahead of the end, as the last one may not be mapped.
		least := greatPages - page - 1
		wantRoom(t, m, tenant, records-4, least, api.OK)
		for pages := 1; pages <= most; pages++ {
			n := m
			if pages == least || pages == least-1 || pages < 4 {
				n = m.Copy()
			}
			switch {
			case pages > least:
				wantTake(t, n, tenant, pages, 1, 0, api.ErrSpent)
			case n != m:
				wantTake(t, n, tenant, pages, 1, addressOf(tenant, page), api.OK)
				wantRoom(t, n, tenant, records-5, max(least-pages-1, 0), api.OK)
			}
		}
		wantTake(t, m, tenant, least-2, 1, addressOf(tenant, page), api.OK)
		wantRoom(t, m, tenant, records-5, 1, api.OK)
		was := m.Copy()
		wantTake(t, m, tenant, 2, 1, 0, api.ErrSpent)
		wantSame(t, m, was, "Take")
		wantTake(t, m, tenant, 1, 1, addressOf(tenant, greatPages-2), api.OK)
		wantRoom(t, m, tenant, records-6, 0, api.OK)
		was = m.Copy()
		for _, pages := range []int{1, 2, most} {
			wantTake(t, m, tenant, pages, 1, 0, api.ErrSpent)
		}
		wantSame(t, m, was, "Take")
		// What is given back does not come again.
		wantGive(t, m, tenant, addressOf(tenant, greatPages-2), live(tenant, greatPages-2, 1, 1), api.OK)
		wantTake(t, m, tenant, 1, 1, 0, api.ErrSpent)
		wantRoom(t, m, tenant, records-6, 0, api.OK)
		wantTake(t, m, (tenant+1)%tenants, 1, 1, addressOf((tenant+1)%tenants, 1), api.OK)
	}
}

// P17.1, P17.2: each place at which the last piece may end, beside the great pages' end
func TestSpentBesides(t *testing.T) {
	m := memory(t, 1)
	for page := greatPages - most - 10; page <= greatPages+2; page++ {
		for _, tenant := range []int{0, 3} {
			put(t, m, tenant, 0, gone(live(tenant, page-3, 2, 5)))
			pages := min(max(greatPages-1-page, 0), most)
			wantRoom(t, m, tenant, records-1, pages, api.OK)
			was := m.Copy()
			if pages > 1 {
				wantTake(t, m, tenant, pages, 1, 0, api.ErrLeft)
			}
			if pages < most {
				wantTake(t, m, tenant, pages+1, 1, 0, api.ErrSpent)
			}
			wantSame(t, m, was, "Take")
		}
	}
}

// P17.1: ErrSpent, ahead of ErrLeft, if no record is left
func TestTakeRecords(t *testing.T) {
	for _, tenant := range []int{0, 3} {
		m := memory(t, 2)
		var l []api.Great
		for i := range records {
			wantRoom(t, m, tenant, records-i, most, api.OK)
			g := live(tenant, 1+2*i, 1, 1+i%pageBytes)
			wantTake(t, m, tenant, 1, g.Size, addressOf(tenant, 1+2*i), api.OK)
			if i > 0 {
				wantGive(t, m, tenant, addressOf(tenant, 1+2*i), g, api.OK)
				g = gone(g)
			}
			l = append(l, g)
		}
		wantBook(t, m, tenant, l...)
		wantRoom(t, m, tenant, 0, 0, api.OK)
		was := m.Copy()
		for _, pages := range []int{1, 2, most} {
			wantTake(t, m, tenant, pages, 1, 0, api.ErrSpent)
		}
		wantSame(t, m, was, "Take")
		wantGet(t, m, tenant, addressOf(tenant, 1), l[0], api.OK)
		wantGive(t, m, tenant, addressOf(tenant, 1), l[0], api.OK)
		wantTake(t, m, tenant, 1, 1, 0, api.ErrSpent)
		wantRoom(t, m, tenant, 0, 0, api.OK)
		wantRoom(t, m, 1, records, most, api.OK)
	}
}

// P17.1, P17.3: it is gone, its pages and no others are unmapped, its frames are left again, and are 0 when they come again
func TestGive(t *testing.T) {
	for tenant := range tenants {
		m := memory(t, 12)
		var at []uint32
		var l []api.Great
		page := 1
		for i, pages := range []int{3, 1, 4, 2} {
			at = append(at, addressOf(tenant, page))
			l = append(l, live(tenant, page, pages, 100+i))
			wantTake(t, m, tenant, pages, 100+i, at[i], api.OK)
			store(t, m, tenant, at[i], noise(pages*pageBytes))
			page += pages + 1
		}
		for i, k := range []int{2, 0, 3, 1} {
			was := m.Copy()
			left := m.Left(tenant)
			wantGive(t, m, tenant, at[k], l[k], api.OK)
			if m.Left(tenant) != left+l[k].Pages {
				t.Fatalf("%d are left, want %d", m.Left(tenant), left+l[k].Pages)
			}
			for page := range l[k].Pages {
				if x, is := m.Get(l[k].First + page); is {
					t.Fatalf("page %d is %+v", l[k].First+page, x)
				}
				want(t, "Unmap", was.Unmap(l[k].First+page), api.OK)
			}
			put(t, was, tenant, k, gone(l[k]))
			wantSame(t, m, was, "Give: more than that")
			wantRefused(t, m, tenant, at[k], api.ErrPiece)
			wantRoom(t, m, tenant, records-4, most, api.OK)
			if i == 1 {
				wantBytes(t, m, tenant, at[1], noise(pageBytes))
			}
		}
		wantPages(t, m, tenant, 0, 0)
		wantTake(t, m, tenant, 12, 1, addressOf(tenant, page), api.OK)
		wantBytes(t, m, tenant, addressOf(tenant, page), make([]byte, 12*pageBytes))
	}
}

// P17.1: pages of a piece that are mapped no more, or otherwise, do not keep it from being given back
func TestGivePart(t *testing.T) {
	for page := range 3 {
		for _, may := range []api.May{api.MayNone, api.MayRead} {
			m := memory(t, 3)
			wantTake(t, m, 1, 3, 700, addressOf(1, 1), api.OK)
			_, e := m.Protect(greats[1]+1+page, may)
			want(t, "Protect", e, api.OK)
			if page > 0 {
				want(t, "Unmap", m.Unmap(greats[1]+page), api.OK)
			}
			wantGet(t, m, 1, addressOf(1, 1), live(1, 1, 3, 700), api.OK)
			wantGive(t, m, 1, addressOf(1, 1), live(1, 1, 3, 700), api.OK)
			wantPages(t, m, 1, 0, 0)
			wantBook(t, m, 1, gone(live(1, 1, 3, 700)))
			if m.Left(1) != 3 {
				t.Fatalf("%d are left", m.Left(1))
			}
		}
	}
}

// P17.1: a page that somebody has is not taken: then nothing changes
func TestTakeMapped(t *testing.T) {
	for page := range 3 {
		for _, owner := range []int{api.Nobody, 1, 2, payer} {
			m := memory(t, 9)
			wantTake(t, m, 1, 2, 1, addressOf(1, 1), api.OK)
			want(t, "Map", m.Map(greats[1]+4+page, owner, payer, api.MayWrite), api.OK)
			was := m.Copy()
			wantTake(t, m, 1, 3, 1, 0, api.ErrMapped)
			wantSame(t, m, was, "Take")
			want(t, "Unmap", m.Unmap(greats[1]+4+page), api.OK)
			wantTake(t, m, 1, 3, 1, addressOf(1, 4), api.OK)
		}
	}
}

// P17.1, P17.2: ErrNil, ErrArg, ahead of all others; no address counts of them
func TestArgs(t *testing.T) {
	addresses := []uint32{0, 1, addressOf(0, 1), addressOf(3, 1), 1<<24 - 1, 1 << 24, 1<<24 + addressOf(0, 1), math.MaxUint32}
	for _, m := range []*vmem.Memory{nil, {}} {
		for _, tenant := range append([]int{0, 3}, noTenants...) {
			for _, at := range addresses {
				wantRefused(t, m, tenant, at, api.ErrNil)
			}
			wantRoom(t, m, tenant, 0, 0, api.ErrNil)
			wantAll(t, m, tenant)
		}
	}
	shut, _ := vmem.New(0)
	m := memory(t, 4)
	for tenant := range tenants {
		wantTake(t, m, tenant, 1, 1, addressOf(tenant, 1), api.OK)
	}
	for _, m := range []*vmem.Memory{shut, m} {
		was := m.Copy()
		for _, tenant := range noTenants {
			for _, at := range addresses {
				wantRefused(t, m, tenant, at, api.ErrArg)
			}
			wantRoom(t, m, tenant, 0, 0, api.ErrArg)
			wantAll(t, m, tenant)
		}
		wantSame(t, m, was, "what may not be")
	}
	for tenant := range tenants {
		for _, at := range addresses {
			wantRefused(t, shut, tenant, at, api.ErrNone)
		}
		wantRoom(t, shut, tenant, 0, 0, api.ErrNone)
		wantAll(t, shut, tenant)
	}
}

// P17.1, P17.2: only just where a live piece of the tenant's begins there is one
func TestPlaces(t *testing.T) {
	m := memory(t, 6)
	for tenant := range tenants {
		wantTake(t, m, tenant, 2, 300, addressOf(tenant, 1), api.OK)
		wantTake(t, m, tenant, 1, 7, addressOf(tenant, 4), api.OK)
		wantTake(t, m, tenant, 1, 256, addressOf(tenant, 6), api.OK)
		wantGive(t, m, tenant, addressOf(tenant, 4), live(tenant, 4, 1, 7), api.OK)
	}
	was := m.Copy()
	for tenant := range tenants {
		for place := range uint32(9 * pageBytes) {
			at := addressOf(tenant, 0) + place
			switch place {
			case pageBytes:
				wantGet(t, m, tenant, at, live(tenant, 1, 2, 300), api.OK)
			case 6 * pageBytes:
				wantGet(t, m, tenant, at, live(tenant, 6, 1, 256), api.OK)
			default:
				wantGet(t, m, tenant, at, api.Great{}, api.ErrPiece)
			}
			if place%pageBytes < 2 || place%pageBytes == pageBytes-1 || place%63 == 0 {
				for other := range tenants {
					if place != pageBytes && place != 6*pageBytes || other != tenant {
						wantRefused(t, m, other, at, api.ErrPiece)
					}
				}
			}
		}
		for _, at := range []uint32{0, 1, 256, uint32(books[tenant] * pageBytes), addressOf(tenant, -255) + 16, addressOf(tenant, greatPages-1), 1<<24 - 256, 1 << 24, 1<<24 + addressOf(tenant, 1), 1<<31 + addressOf(tenant, 1), math.MaxUint32} {
			wantRefused(t, m, tenant, at, api.ErrPiece)
		}
	}
	wantSame(t, m, was, "Get")
}

// P17.2: it has that size: the one that it had; its pages and all else stay
func TestResize(t *testing.T) {
	for _, pages := range []int{1, 2, 3, 1024} {
		m := memory(t, pages+1)
		wantTake(t, m, 3, 1, 1, addressOf(3, 1), api.OK)
		wantTake(t, m, 3, pages, 1, addressOf(3, 3), api.OK)
		store(t, m, 3, addressOf(3, 3), noise(pages*pageBytes))
		had := 1
		for _, size := range []int{2, pages * pageBytes, pages*pageBytes - 1, 255, 1, 256, 256, pages*pageBytes/2 + 1} {
			was := m.Copy()
			wantResize(t, m, 3, addressOf(3, 3), size, had, api.OK)
			put(t, was, 3, 1, live(3, 3, pages, size))
			wantSame(t, m, was, "Resize: more than that")
			wantGet(t, m, 3, addressOf(3, 3), live(3, 3, pages, size), api.OK)
			had = size
		}
		was := m.Copy()
		for _, size := range append([]int{pages*pageBytes + 1, (pages + 1) * pageBytes}, noSizes...) {
			wantResize(t, m, 3, addressOf(3, 3), size, 0, api.ErrArg)
			// Where no piece begins, a size that may not be counts behind that.
			wantResize(t, m, 3, addressOf(3, 4), size, 0, api.ErrPiece)
			wantResize(t, m, 2, addressOf(3, 3), size, 0, api.ErrPiece)
		}
		wantSame(t, m, was, "Resize")
		wantGive(t, m, 3, addressOf(3, 3), live(3, 3, pages, had), api.OK)
		wantResize(t, m, 3, addressOf(3, 3), 1, 0, api.ErrPiece)
	}
}

// P17.2: each size of a piece of two pages
func TestResizeAll(t *testing.T) {
	m := memory(t, 2)
	wantTake(t, m, 0, 2, 512, addressOf(0, 1), api.OK)
	had := 512
	for size := -3; size < 520; size++ {
		if size < 1 || size > 512 {
			wantResize(t, m, 0, addressOf(0, 1), size, 0, api.ErrArg)
			continue
		}
		wantResize(t, m, 0, addressOf(0, 1), size, had, api.OK)
		had = size
	}
}

// P17.2: how many records are left, and how many pages may come; frames do not count
func TestRoom(t *testing.T) {
	for tenant := range tenants {
		m := memory(t, 3)
		was := m.Copy()
		wantRoom(t, m, tenant, 384, 1024, api.OK)
		wantSame(t, m, was, "Room")
		wantTake(t, m, tenant, 2, 1, addressOf(tenant, 1), api.OK)
		wantRoom(t, m, tenant, 383, 1024, api.OK)
		wantTake(t, m, tenant, 1, 1, addressOf(tenant, 4), api.OK)
		wantRoom(t, m, tenant, 382, 1024, api.OK)
		wantGive(t, m, tenant, addressOf(tenant, 4), live(tenant, 4, 1, 1), api.OK)
		wantRoom(t, m, tenant, 382, 1024, api.OK)
		wantRoom(t, m, (tenant+1)%tenants, 384, 1024, api.OK)
	}
}

// P17.2: the live pieces, rising, as they are when All is called; left at any time, and gone over again
func TestAll(t *testing.T) {
	for tenant := range tenants {
		m := memory(t, 20)
		wantAll(t, m, tenant)
		var l []told
		page := 1
		for i, pages := range []int{3, 1, 4, 2, 1} {
			g := live(tenant, page, pages, 10+i)
			l = append(l, told{addressOf(tenant, page), g})
			wantTake(t, m, tenant, pages, 10+i, l[i].at, api.OK)
			wantAll(t, m, tenant, l...)
			page += pages + 1
		}
		all := large.All(m, tenant)
		for many := range 6 {
			if x := collect(all, many); !slices.Equal(x, l[:many]) {
				t.Fatalf("All left behind %d: %+v", many, x)
			}
		}
		wantGive(t, m, tenant, l[0].at, l[0].Great, api.OK)
		wantGive(t, m, tenant, l[3].at, l[3].Great, api.OK)
		wantResize(t, m, tenant, l[1].at, 200, 11, api.OK)
		if x := collect(all, 9); !slices.Equal(x, l) {
			t.Fatalf("All of what was: %+v", x)
		}
		l[1].Size = 200
		wantAll(t, m, tenant, l[1], l[2], l[4])
		wantAll(t, m, (tenant+1)%tenants)
		for at, g := range large.All(m, tenant) {
			wantGive(t, m, tenant, at, g, api.OK)
			wantTake(t, m, tenant, 1, 1, addressOf(tenant, page), api.OK)
			page += 2
		}
		wantAll(t, m, tenant, told{addressOf(tenant, page-6), live(tenant, page-6, 1, 1)}, told{addressOf(tenant, page-4), live(tenant, page-4, 1, 1)}, told{addressOf(tenant, page-2), live(tenant, page-2, 1, 1)})
		was := m.Copy()
		for range large.All(m, tenant) {
		}
		wantSame(t, m, was, "All")
	}
}

// P17.3: a piece of which no record tells anything is none, and none comes behind it; the others stay what they are
func TestNoRecord(t *testing.T) {
	for tenant := range tenants {
		m := memory(t, 9)
		where := func(index int) uint32 {
			return uint32((books[tenant]+24)*pageBytes + 16*index)
		}
		l := []api.Great{live(tenant, 1, 2, 300), live(tenant, 4, 1, 5), live(tenant, 6, 1, 7)}
		for i, g := range l {
			wantTake(t, m, tenant, g.Pages, g.Size, addressOf(tenant, []int{1, 4, 6}[i]), api.OK)
		}
		for _, b := range [][]byte{{5, 0}, {255, 0}, {2, 1}, {4, 255}} {
			want(t, "Poke", m.Poke(where(1), b), api.OK)
			wantRefused(t, m, tenant, addressOf(tenant, 4), api.ErrPiece)
			wantGet(t, m, tenant, addressOf(tenant, 6), l[2], api.OK)
			wantAll(t, m, tenant, told{addressOf(tenant, 1), l[0]}, told{addressOf(tenant, 6), l[2]})
			wantRoom(t, m, tenant, records-3, most, api.OK)
			n := m.Copy()
			wantTake(t, n, tenant, 1, 1, addressOf(tenant, 8), api.OK)
			want(t, "Poke", n.Poke(where(3), b), api.OK)
			was := n.Copy()
			wantTake(t, n, tenant, 1, 1, 0, api.ErrSpent)
			wantRoom(t, n, tenant, records-4, 0, api.OK)
			wantSame(t, n, was, "Take")
			wantTake(t, n, (tenant+1)%tenants, 1, 1, addressOf((tenant+1)%tenants, 1), api.OK)
		}
		// What stands behind the records that are known does not make others.
		put(t, m, tenant, 1, l[1])
		put(t, m, tenant, 9, live(tenant, 30, 1, 1))
		wantRefused(t, m, tenant, addressOf(tenant, 30), api.ErrPiece)
		wantTake(t, m, tenant, 1, 1, addressOf(tenant, 8), api.OK)
	}
}

// P17.1, P17.2: no record but a live one is a live piece's
func TestStates(t *testing.T) {
	for _, x := range []api.State{api.StateFree, api.StateKept, api.StateHeld, api.StateGone} {
		m := memory(t, 3)
		wantTake(t, m, 2, 1, 5, addressOf(2, 1), api.OK)
		put(t, m, 2, 0, api.Great{State: x, Pages: 1, Size: 5, First: greats[2] + 1})
		wantRefused(t, m, 2, addressOf(2, 1), api.ErrPiece)
		wantAll(t, m, 2)
	}
}

// P17.3: copies go on apart
func TestCopies(t *testing.T) {
	m := memory(t, 5)
	wantTake(t, m, 0, 1, 1, addressOf(0, 1), api.OK)
	n := m.Copy()
	wantTake(t, m, 0, 2, 1, addressOf(0, 3), api.OK)
	wantTake(t, n, 0, 3, 1, addressOf(0, 3), api.OK)
	wantGive(t, n, 0, addressOf(0, 1), live(0, 1, 1, 1), api.OK)
	wantGet(t, m, 0, addressOf(0, 1), live(0, 1, 1, 1), api.OK)
	wantGet(t, m, 0, addressOf(0, 3), live(0, 3, 2, 1), api.OK)
	wantGet(t, n, 0, addressOf(0, 3), live(0, 3, 3, 1), api.OK)
}

// facts are all pieces that a tenant ever was given, and their bytes, apart from the program.
type facts struct {
	ever  []api.Great
	bytes [][]byte
	left  int
}

// next is where the next one's First is.
func (f *facts) next(tenant int) int {
	if len(f.ever) == 0 {
		return greats[tenant] + 1
	}
	g := f.ever[len(f.ever)-1]
	return g.First + g.Pages + 1
}

// room is how many records are left, and how many pages the next one may have.
func (f *facts) room(tenant int) (int, int) {
	left, pages := records-len(f.ever), 0
	for pages < most && left > 0 && f.next(tenant)+pages+1 < greats[tenant]+greatPages {
		pages++
	}
	return left, pages
}

// live are those that are.
func (f *facts) live() []api.Great {
	var l []api.Great
	for _, g := range f.ever {
		if g.State == api.StateLive {
			l = append(l, g)
		}
	}
	return l
}

// find is the live one that begins somewhere, -1 if none does.
func (f *facts) find(at uint32) int {
	return slices.IndexFunc(f.ever, func(g api.Great) bool {
		return g.State == api.StateLive && uint32(g.First*pageBytes) == at
	})
}

// hold holds what the memory tells of a tenant against them.
func (f *facts) hold(t *testing.T, m *vmem.Memory, tenant int) {
	t.Helper()
	wantBook(t, m, tenant, f.ever...)
	left, pages := f.room(tenant)
	wantRoom(t, m, tenant, left, pages, api.OK)
	var l []told
	var mapped []int
	for i, g := range f.ever {
		if g.State != api.StateLive {
			continue
		}
		l = append(l, told{uint32(g.First * pageBytes), g})
		wantBytes(t, m, tenant, uint32(g.First*pageBytes), f.bytes[i])
		for page := range g.Pages {
			mapped = append(mapped, g.First+page)
		}
	}
	wantAll(t, m, tenant, l...)
	if x := slices.Collect(m.Pages(tenant)); !slices.Equal(x, mapped) {
		t.Fatalf("%d has %v, want %v", tenant, x, mapped)
	}
	if m.Left(tenant) != f.left {
		t.Fatalf("%d has %d left, want %d", tenant, m.Left(tenant), f.left)
	}
}

// take takes one of so many pages in both.
func (f *facts) take(t *testing.T, m *vmem.Memory, tenant, pages, size int) {
	t.Helper()
	_, room := f.room(tenant)
	switch {
	case pages < 1 || pages > most || size < 1 || size > pages*pageBytes:
		wantTake(t, m, tenant, pages, size, 0, api.ErrArg)
	case pages > room:
		wantTake(t, m, tenant, pages, size, 0, api.ErrSpent)
	case pages > f.left:
		wantTake(t, m, tenant, pages, size, 0, api.ErrLeft)
	default:
		g := api.Great{State: api.StateLive, Pages: pages, Size: size, First: f.next(tenant)}
		wantTake(t, m, tenant, pages, size, uint32(g.First*pageBytes), api.OK)
		f.ever, f.bytes, f.left = append(f.ever, g), append(f.bytes, make([]byte, pages*pageBytes)), f.left-pages
	}
}

// one does a call that is drawn to both.
func (f *facts) one(t *testing.T, r *rand.Rand, m *vmem.Memory, tenant, great int) {
	t.Helper()
	at := uint32((greats[tenant] + r.Intn(40)) * pageBytes)
	if l := f.live(); len(l) > 0 && r.Intn(3) > 0 {
		at = uint32(l[r.Intn(len(l))].First * pageBytes)
	} else if len(f.ever) > 0 && r.Intn(3) > 0 {
		at = uint32(f.ever[r.Intn(len(f.ever))].First * pageBytes)
	}
	at += uint32(r.Intn(8) / 7)
	i, size := f.find(at), r.Intn(3*pageBytes)
	switch kind := r.Intn(8); {
	case kind < 3:
		pages := 1 + r.Intn(great)
		f.take(t, m, tenant, pages*min(r.Intn(12), 1), r.Intn(pages*pageBytes+20))
	case i < 0 && kind < 5:
		wantGive(t, m, tenant, at, api.Great{}, api.ErrPiece)
	case i < 0 && kind == 5:
		wantResize(t, m, tenant, at, size, 0, api.ErrPiece)
	case i < 0:
		wantGet(t, m, tenant, at, api.Great{}, api.ErrPiece)
	case kind < 5:
		wantGive(t, m, tenant, at, f.ever[i], api.OK)
		f.ever[i].State = api.StateGone
		f.left += f.ever[i].Pages
	case kind == 5 && (size < 1 || size > f.ever[i].Pages*pageBytes):
		wantResize(t, m, tenant, at, size, 0, api.ErrArg)
	case kind == 5:
		wantResize(t, m, tenant, at, size, f.ever[i].Size, api.OK)
		f.ever[i].Size = size
	default:
		place := r.Intn(len(f.bytes[i]))
		f.bytes[i][place] = byte(1 + r.Intn(255))
		store(t, m, tenant, at+uint32(place), f.bytes[i][place:place+1])
		wantGet(t, m, tenant, at, f.ever[i], api.OK)
	}
}

// P17.1 to P17.3: calls in any order, held against plain facts
func TestAnyOrder(t *testing.T) {
	for seed := range int64(4) {
		r := rand.New(rand.NewSource(seed))
		// Now records are spent first, now pages, now neither is.
		great := []int{2, 9, 40, 400}[seed%4]
		m := memory(t, 3*great+10)
		var all [tenants]facts
		for tenant := range tenants {
			all[tenant].left = 3*great + 10
		}
		for i := range 11000 {
			tenant := r.Intn(tenants)
			all[tenant].one(t, r, m, tenant, great)
			if i%500 == 0 {
				for tenant := range tenants {
					all[tenant].hold(t, m, tenant)
				}
			}
		}
		for tenant := range tenants {
			f := &all[tenant]
			f.hold(t, m, tenant)
			if left, pages := f.room(tenant); great == 2 && left > 0 || great == 400 && pages > 100 {
				t.Fatalf("%d: %d records, %d pages are left: too few calls", tenant, left, pages)
			}
			// No two that ever were share a page, and between any two, and at both ends, one was never mapped.
			behind := greats[tenant]
			for _, g := range f.ever {
				if g.First != behind+1 {
					t.Fatalf("%d begins behind %d", g.First, behind)
				}
				behind = g.First + g.Pages
			}
			if behind >= greats[tenant]+greatPages {
				t.Fatalf("%d ends at %d", tenant, behind)
			}
		}
	}
}
