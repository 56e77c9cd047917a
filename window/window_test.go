package window_test

import (
	"iter"
	"math"
	"slices"
	"testing"

	"pinfold/api"
	"pinfold/window"
)

const (
	tenants   = 4
	classes   = 8
	pages     = 65536
	pageBytes = 256
	addresses = 1 << 24
)

// where is what the chapter says of a slot, written out.
type where struct {
	base, book, great, until int
	regions                  [classes]int
}

var slots = [tenants]where{
	{4096, 1, 4352, 8192, [classes]int{4097, 4114, 4131, 4148, 4165, 4182, 4199, 4216}},
	{8192, 65, 8448, 12288, [classes]int{8193, 8210, 8227, 8244, 8261, 8278, 8295, 8312}},
	{12288, 129, 12544, 16384, [classes]int{12289, 12306, 12323, 12340, 12357, 12374, 12391, 12408}},
	{16384, 193, 16640, 20480, [classes]int{16385, 16402, 16419, 16436, 16453, 16470, 16487, 16504}},
}

// noSlots are those just beyond both ends, those whose pages there would be, and those that a narrower kind would cut to one that there is.
var noSlots = []int{4, 5, 6, 7, 8, 14, 15, 16, 63, 64, 255, 256, 257, 259, 1023, 1024, 65535, 65536, 65537, 1 << 31, 1<<32 - 1, 1 << 32, 1<<32 + 3, 1 << 51, 1 << 52, 1 << 58, 1 << 62, math.MaxInt32, math.MaxInt - 1, math.MaxInt, -1, -2, -3, -4, -5, -256, -65536, -1 << 31, 1 - 1<<32, -1 << 32, -1 << 52, math.MinInt32, math.MinInt, math.MinInt + 1, math.MinInt + 3}

// noClasses are such of classes.
var noClasses = []int{8, 9, 15, 16, 17, 240, 255, 256, 257, 263, 65536, 65543, 1 << 31, 1<<32 - 1, 1 << 32, 1<<32 + 7, 1 << 60, 1 << 62, math.MaxInt32, math.MaxInt - 1, math.MaxInt, -1, -2, -7, -8, -256, -65536, -1 << 31, 7 - 1<<32, -1 << 32, math.MinInt32, math.MinInt, math.MinInt + 1, math.MinInt + 7}

// noPages are such of pages.
var noPages = []int{-1, -2, -48, -255, -256, -4096, -65535, -65536, -65537, -61439, -1 << 31, 4097 - 1<<32, -1 << 32, math.MinInt32, math.MinInt, math.MinInt + 1, math.MinInt + 4097, 65536, 65537, 65538, 69633, 131072, 1 << 24, 1 << 31, 1<<32 - 1, 1 << 32, 1<<32 + 1, 1<<32 + 4097, 1 << 56, 1<<56 + 2, 1 << 62, math.MaxInt - 65535, math.MaxInt - 1, math.MaxInt}

// noPlaces are such of places in a page.
var noPlaces = []int{-1, -2, -255, -256, -257, -65536, -1 << 31, 5 - 1<<32, -1 << 32, math.MinInt32, math.MinInt, math.MinInt + 1, math.MinInt + 5, 256, 257, 261, 511, 512, 65535, 65536, 65541, 1 << 24, 1 << 31, 1<<32 - 1, 1 << 32, 1<<32 + 5, 1 << 62, math.MaxInt - 1, math.MaxInt}

// sites is what the chapter says of each page, laid page by page; nothing is laid twice but over a gap.
func sites(t *testing.T) []api.Site {
	t.Helper()
	l := make([]api.Site, pages)
	lay := func(page int, over api.SiteKind, s api.Site) {
		if l[page].Kind != over {
			t.Fatalf("page %d is %+v and %+v", page, l[page], s)
		}
		l[page] = s
	}
	for slot, w := range slots {
		for place := range 48 {
			lay(w.book+place, api.SiteNone, api.Site{Kind: api.SiteBook, Slot: slot, Place: place})
		}
		for place := range 4096 {
			lay(w.base+place, api.SiteNone, api.Site{Kind: api.SiteGap, Slot: slot, Place: place})
		}
		for class, from := range w.regions {
			for place := range 16 {
				lay(from+place, api.SiteGap, api.Site{Kind: api.SiteRegion, Slot: slot, Class: class, Place: place})
			}
		}
		for page := w.great; page < w.until; page++ {
			lay(page, api.SiteGap, api.Site{Kind: api.SiteGreat, Slot: slot, Place: page - w.base})
		}
	}
	return l
}

// got is what Of tells of each page.
func got(t *testing.T) []api.Site {
	t.Helper()
	l := make([]api.Site, pages)
	for page := range l {
		s, e := window.Of(page)
		if e != api.OK {
			t.Fatalf("Of(%d): %v", page, e)
		}
		l[page] = s
	}
	return l
}

// P10.1, P10.2, the examples
func TestExamples(t *testing.T) {
	if n, e := window.Base(0); n != 4096 || e != api.OK {
		t.Errorf("Base(0): %d %v", n, e)
	}
	if n, e := window.Region(0, 0); n != 4097 || e != api.OK {
		t.Errorf("Region(0, 0): %d %v", n, e)
	}
	if n, e := window.Region(3, 7); n != 16504 || e != api.OK {
		t.Errorf("Region(3, 7): %d %v", n, e)
	}
	if from, until, e := window.Great(1); from != 8448 || until != 12288 || e != api.OK {
		t.Errorf("Great(1): %d %d %v", from, until, e)
	}
	if n, e := window.Book(2); n != 129 || e != api.OK {
		t.Errorf("Book(2): %d %v", n, e)
	}
	if n, e := window.Base(4); n != 0 || e != api.ErrArg {
		t.Errorf("Base(4): %d %v", n, e)
	}
	if at, e := window.Address(2, 5); at != 517 || e != api.OK {
		t.Errorf("Address(2, 5): %d %v", at, e)
	}
	if page, place, e := window.Split(517); page != 2 || place != 5 || e != api.OK {
		t.Errorf("Split(517): %d %d %v", page, place, e)
	}
	if at, e := window.Address(1, 256); at != 0 || e != api.ErrRange {
		t.Errorf("Address(1, 256): %d %v", at, e)
	}
}

// P10.2, the examples
func TestExamplesOfPages(t *testing.T) {
	for _, c := range []struct {
		page int
		want api.Site
		e    api.Errno
	}{
		{4097, api.Site{Kind: api.SiteRegion, Slot: 0, Class: 0, Place: 0}, api.OK},
		{4113, api.Site{Kind: api.SiteGap, Slot: 0, Place: 17}, api.OK},
		{4352, api.Site{Kind: api.SiteGreat, Slot: 0, Place: 256}, api.OK},
		{1, api.Site{Kind: api.SiteBook, Slot: 0, Place: 0}, api.OK},
		{0, api.Site{Kind: api.SiteNone}, api.OK},
		{65536, api.Site{}, api.ErrRange},
	} {
		if s, e := window.Of(c.page); s != c.want || e != c.e {
			t.Errorf("Of(%d): %+v %v, want %+v %v", c.page, s, e, c.want, c.e)
		}
	}
}

// P10.1
func TestBaseRegionGreatBook(t *testing.T) {
	for slot, w := range slots {
		if n, e := window.Base(slot); n != w.base || e != api.OK {
			t.Errorf("Base(%d): %d %v, want %d", slot, n, e, w.base)
		}
		if n, e := window.Book(slot); n != w.book || e != api.OK {
			t.Errorf("Book(%d): %d %v, want %d", slot, n, e, w.book)
		}
		if from, until, e := window.Great(slot); from != w.great || until != w.until || e != api.OK {
			t.Errorf("Great(%d): %d %d %v, want %d %d", slot, from, until, e, w.great, w.until)
		}
		for class, want := range w.regions {
			if n, e := window.Region(slot, class); n != want || e != api.OK {
				t.Errorf("Region(%d, %d): %d %v, want %d", slot, class, n, e, want)
			}
		}
	}
}

// P10.1
func TestBaseRegionGreatBookOfNoSlot(t *testing.T) {
	for _, slot := range noSlots {
		if n, e := window.Base(slot); n != 0 || e != api.ErrArg {
			t.Errorf("Base(%d): %d %v, want ErrArg", slot, n, e)
		}
		if n, e := window.Book(slot); n != 0 || e != api.ErrArg {
			t.Errorf("Book(%d): %d %v, want ErrArg", slot, n, e)
		}
		if from, until, e := window.Great(slot); from != 0 || until != 0 || e != api.ErrArg {
			t.Errorf("Great(%d): %d %d %v, want ErrArg", slot, from, until, e)
		}
		for class := range classes {
			if n, e := window.Region(slot, class); n != 0 || e != api.ErrArg {
				t.Errorf("Region(%d, %d): %d %v, want ErrArg", slot, class, n, e)
			}
		}
	}
}

// P10.1
func TestRegionOfNoClass(t *testing.T) {
	for _, class := range noClasses {
		for slot := range tenants {
			if n, e := window.Region(slot, class); n != 0 || e != api.ErrArg {
				t.Errorf("Region(%d, %d): %d %v, want ErrArg", slot, class, n, e)
			}
		}
		for _, slot := range noSlots {
			if n, e := window.Region(slot, class); n != 0 || e != api.ErrArg {
				t.Errorf("Region(%d, %d): %d %v, want ErrArg", slot, class, n, e)
			}
		}
	}
}

// P10.2: the first and the last page of all that there are, and those beside them
func TestOfAtEnds(t *testing.T) {
	for _, c := range []struct {
		page int
		want api.Site
	}{
		{2, api.Site{Kind: api.SiteBook, Place: 1}}, {48, api.Site{Kind: api.SiteBook, Place: 47}},
		{49, api.Site{}}, {63, api.Site{}}, {64, api.Site{}},
		{65, api.Site{Kind: api.SiteBook, Slot: 1}}, {112, api.Site{Kind: api.SiteBook, Slot: 1, Place: 47}}, {113, api.Site{}},
		{193, api.Site{Kind: api.SiteBook, Slot: 3}}, {240, api.Site{Kind: api.SiteBook, Slot: 3, Place: 47}},
		{241, api.Site{}}, {256, api.Site{}}, {257, api.Site{}}, {304, api.Site{}}, {4095, api.Site{}},
		{4096, api.Site{Kind: api.SiteGap}},
		{4112, api.Site{Kind: api.SiteRegion, Place: 15}},
		{4114, api.Site{Kind: api.SiteRegion, Class: 1}},
		{4216, api.Site{Kind: api.SiteRegion, Class: 7}}, {4231, api.Site{Kind: api.SiteRegion, Class: 7, Place: 15}},
		{4232, api.Site{Kind: api.SiteGap, Place: 136}}, {4233, api.Site{Kind: api.SiteGap, Place: 137}}, {4248, api.Site{Kind: api.SiteGap, Place: 152}},
		{4351, api.Site{Kind: api.SiteGap, Place: 255}},
		{4353, api.Site{Kind: api.SiteGreat, Place: 257}}, {8191, api.Site{Kind: api.SiteGreat, Place: 4095}},
		{8192, api.Site{Kind: api.SiteGap, Slot: 1}}, {8193, api.Site{Kind: api.SiteRegion, Slot: 1}},
		{16519, api.Site{Kind: api.SiteRegion, Slot: 3, Class: 7, Place: 15}}, {16520, api.Site{Kind: api.SiteGap, Slot: 3, Place: 136}},
		{20479, api.Site{Kind: api.SiteGreat, Slot: 3, Place: 4095}}, {20480, api.Site{}}, {20481, api.Site{}}, {20736, api.Site{}},
		{65534, api.Site{}}, {65535, api.Site{}},
	} {
		if s, e := window.Of(c.page); s != c.want || e != api.OK {
			t.Errorf("Of(%d): %+v %v, want %+v", c.page, s, e, c.want)
		}
	}
}

// P10.2
func TestOfEachPage(t *testing.T) {
	all := got(t)
	for page, want := range sites(t) {
		if all[page] != want {
			t.Fatalf("Of(%d): %+v, want %+v", page, all[page], want)
		}
	}
}

// P10.2
func TestOfNoPage(t *testing.T) {
	for _, page := range noPages {
		if s, e := window.Of(page); s != (api.Site{}) || e != api.ErrRange {
			t.Errorf("Of(%d): %+v %v, want ErrRange", page, s, e)
		}
	}
}

// P10.2
func TestAddress(t *testing.T) {
	for _, c := range []struct {
		page, at int
		want     uint32
	}{
		{0, 0, 0}, {0, 1, 1}, {0, 255, 255}, {1, 0, 256}, {1, 255, 511}, {255, 255, 65535}, {256, 0, 65536},
		{4097, 16, 1048848}, {4353, 0, 1114368}, {20479, 255, 5242879}, {65535, 0, 16776960}, {65535, 255, 16777215},
	} {
		if at, e := window.Address(c.page, c.at); at != c.want || e != api.OK {
			t.Errorf("Address(%d, %d): %d %v, want %d", c.page, c.at, at, e, c.want)
		}
	}
}

// P10.2
func TestAddressRefuses(t *testing.T) {
	for _, page := range noPages {
		for _, at := range slices.Concat([]int{0, 1, 5, 128, 255}, noPlaces) {
			if n, e := window.Address(page, at); n != 0 || e != api.ErrRange {
				t.Errorf("Address(%d, %d): %d %v, want ErrRange", page, at, n, e)
			}
		}
	}
	for _, at := range noPlaces {
		for _, page := range []int{0, 1, 2, 255, 256, 4097, 32768, 65534, 65535} {
			if n, e := window.Address(page, at); n != 0 || e != api.ErrRange {
				t.Errorf("Address(%d, %d): %d %v, want ErrRange", page, at, n, e)
			}
		}
	}
}

// P10.2
func TestSplit(t *testing.T) {
	for _, c := range []struct {
		at          uint32
		page, place int
	}{
		{0, 0, 0}, {1, 0, 1}, {255, 0, 255}, {256, 1, 0}, {511, 1, 255}, {512, 2, 0}, {65535, 255, 255}, {65536, 256, 0},
		{1048848, 4097, 16}, {1114368, 4353, 0}, {5242879, 20479, 255}, {16776959, 65534, 255}, {16776960, 65535, 0}, {16777215, 65535, 255},
	} {
		if page, place, e := window.Split(c.at); page != c.page || place != c.place || e != api.OK {
			t.Errorf("Split(%d): %d %d %v, want %d %d", c.at, page, place, e, c.page, c.place)
		}
	}
}

// P10.2
func TestSplitRefuses(t *testing.T) {
	for _, at := range []uint32{1 << 24, 1<<24 + 1, 1<<24 + 255, 1<<24 + 256, 1<<24 + 517, 1 << 25, 1<<31 - 1, 1 << 31, 1<<31 + 517, 1<<32 - 1<<24, 1<<32 - 257, 1<<32 - 256, 1<<32 - 2, 1<<32 - 1} {
		if page, place, e := window.Split(at); page != 0 || place != 0 || e != api.ErrRange {
			t.Errorf("Split(%d): %d %d %v, want ErrRange", at, page, place, e)
		}
	}
}

// P10.4
func TestSplitOfAddress(t *testing.T) {
	next := uint32(0)
	for page := range pages {
		for place := range pageBytes {
			at, e := window.Address(page, place)
			if at != next || e != api.OK {
				t.Fatalf("Address(%d, %d): %d %v, want %d", page, place, at, e, next)
			}
			next++
			if p, q, e := window.Split(at); p != page || q != place || e != api.OK {
				t.Fatalf("Split(%d): %d %d %v, want %d %d", at, p, q, e, page, place)
			}
		}
	}
	if next != addresses {
		t.Errorf("%d addresses", next)
	}
}

// pair is what Regions tells of a class.
type pair struct{ class, page int }

func pairs(slot int) []pair {
	var l []pair
	for class, page := range slots[slot].regions {
		l = append(l, pair{class, page})
	}
	return l
}

func told(all iter.Seq2[int, int]) []pair {
	var l []pair
	for class, page := range all {
		l = append(l, pair{class, page})
	}
	return l
}

// P10.3
func TestRegions(t *testing.T) {
	for slot := range tenants {
		l := told(window.Regions(slot))
		if !slices.Equal(l, pairs(slot)) {
			t.Errorf("Regions(%d): %v, want %v", slot, l, pairs(slot))
		}
		for _, p := range l {
			if n, e := window.Region(slot, p.class); n != p.page || e != api.OK {
				t.Errorf("Regions(%d) tells %d of class %d, Region %d %v", slot, p.page, p.class, n, e)
			}
		}
	}
}

// P10.3
func TestRegionsOfNoSlot(t *testing.T) {
	for _, slot := range noSlots {
		all := window.Regions(slot)
		if all == nil {
			t.Fatalf("Regions(%d): no iterator", slot)
		}
		if l := told(all); len(l) != 0 {
			t.Errorf("Regions(%d): %v, want nothing", slot, l)
		}
	}
}

// P10.3
func TestRegionsLeftAtAnyTime(t *testing.T) {
	for slot := range tenants {
		all, whole := window.Regions(slot), pairs(slot)
		for most := range len(whole) + 1 {
			var l []pair
			all(func(class, page int) bool {
				if len(l) > most {
					t.Fatalf("told on after it was left at %d", most)
				}
				l = append(l, pair{class, page})
				return len(l) <= most
			})
			if !slices.Equal(l, whole[:min(most+1, len(whole))]) {
				t.Errorf("left behind %d: %v", most, l)
			}
		}
		if l := told(all); !slices.Equal(l, whole) {
			t.Errorf("gone over again: %v, want %v", l, whole)
		}
	}
}

// P10.3
func TestRegionsGoneOverAgain(t *testing.T) {
	for slot := range tenants {
		all, other := window.Regions(slot), (slot+1)%tenants
		var l []pair
		for class, page := range all {
			l = append(l, pair{class, page})
			if m := told(all); !slices.Equal(m, pairs(slot)) {
				t.Fatalf("one within the other: %v", m)
			}
			if m := told(window.Regions(other)); !slices.Equal(m, pairs(other)) {
				t.Fatalf("another one's within: %v", m)
			}
		}
		if !slices.Equal(l, pairs(slot)) {
			t.Errorf("gone over again: %v", l)
		}
	}
}

// firstOf is the page that a site's places are counted from, as the calls tell it.
func firstOf(t *testing.T, s api.Site) int {
	t.Helper()
	n, e := 0, api.OK
	switch s.Kind {
	case api.SiteBook:
		n, e = window.Book(s.Slot)
	case api.SiteRegion:
		n, e = window.Region(s.Slot, s.Class)
	default:
		n, e = window.Base(s.Slot)
	}
	if e != api.OK {
		t.Fatalf("first page of %+v: %v", s, e)
	}
	return n
}

// P10.4
func TestNoPageIsTwoSites(t *testing.T) {
	from, counts := map[api.Site]int{}, map[api.SiteKind]int{}
	for page, s := range got(t) {
		counts[s.Kind]++
		if s.Kind == api.SiteNone {
			if s != (api.Site{}) {
				t.Fatalf("Of(%d): %+v, though it is none", page, s)
			}
			continue
		}
		if before, is := from[s]; is {
			t.Fatalf("pages %d and %d are %+v", before, page, s)
		}
		from[s] = page
		if n := firstOf(t, s) + s.Place; n != page {
			t.Fatalf("Of(%d): %+v, which says page %d", page, s, n)
		}
	}
	for kind, want := range map[api.SiteKind]int{
		api.SiteBook: 4 * 48, api.SiteRegion: 4 * 8 * 16, api.SiteGreat: 4 * 3840, api.SiteGap: 4 * 128, api.SiteNone: 65536 - 4*48 - 4*4096,
	} {
		if counts[kind] != want {
			t.Errorf("%d pages of kind %d, want %d", counts[kind], kind, want)
		}
	}
}

// P10.4
func TestNeighboursOfRegionsAreGaps(t *testing.T) {
	for slot := range tenants {
		base, _ := window.Base(slot)
		for class, page := range window.Regions(slot) {
			for _, beside := range []int{page - 1, page + 16} {
				if s, e := window.Of(beside); s != (api.Site{Kind: api.SiteGap, Slot: slot, Place: beside - base}) || e != api.OK {
					t.Errorf("Of(%d), beside the region of %d, class %d: %+v %v", beside, slot, class, s, e)
				}
			}
			for place := range 16 {
				if s, e := window.Of(page + place); s != (api.Site{Kind: api.SiteRegion, Slot: slot, Class: class, Place: place}) || e != api.OK {
					t.Errorf("Of(%d), in the region of %d, class %d: %+v %v", page+place, slot, class, s, e)
				}
			}
		}
	}
}

// P10.4
func TestGreatPagesAreGreat(t *testing.T) {
	for slot := range tenants {
		base, _ := window.Base(slot)
		from, until, _ := window.Great(slot)
		for page := from; page < until; page++ {
			if s, e := window.Of(page); s != (api.Site{Kind: api.SiteGreat, Slot: slot, Place: page - base}) || e != api.OK {
				t.Fatalf("Of(%d): %+v %v", page, s, e)
			}
		}
		for _, beside := range []int{from - 1, until} {
			if s, _ := window.Of(beside); s.Kind == api.SiteGreat {
				t.Errorf("Of(%d): %+v, beside the great pages of %d", beside, s, slot)
			}
		}
	}
}
