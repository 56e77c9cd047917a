package size_test

import (
	"math"
	"math/big"
	"slices"
	"testing"

	"pinfold/api"
	"pinfold/size"
)

const (
	top    = math.MaxUint64
	region = 4096
)

// classes are all that there are, by their numbers.
var classes = []struct{ payload, slot, count int }{
	{16, 48, 85}, {32, 64, 64}, {48, 80, 51}, {64, 96, 42}, {96, 128, 32}, {128, 160, 25}, {192, 224, 18}, {256, 288, 14},
}

// multiples are all that may be asked for.
var multiples = []uint64{1, 2, 4, 8, 16, 32, 64, 128, 256}

// noClasses are numbers that are no class: those beside, those that a narrower kind would cut to a class.
var noClasses = []int{8, 9, 16, 255, 256, 257, 263, 65536, 65537, 1 << 31, 1 << 32, 1<<32 + 3, math.MaxInt32, math.MaxInt - 1, math.MaxInt, -1, -2, -7, -8, -256, -1 << 32, math.MinInt32, math.MinInt, math.MinInt + 1, math.MinInt + 7}

// noMultiples are no powers, or above a page.
var noMultiples = []uint64{0, 3, 5, 6, 7, 9, 12, 15, 17, 24, 31, 48, 96, 100, 127, 129, 255, 257, 384, 511, 512, 513, 1024, 4096, 65536, 1 << 31, 1 << 32, 1<<32 + 1, 1<<32 + 16, 1 << 62, 1 << 63, 1<<63 + 1, top - 15, top - 1, top}

// noSizes are above the greatest one, some so that a narrower kind would cut them to a small one.
var noSizes = []uint64{api.MaxSize + 1, api.MaxSize + 2, api.MaxSize + 255, api.MaxSize + 256, 2 * api.MaxSize, 1<<31 - 1, 1 << 31, 1<<32 - 1, 1 << 32, 1<<32 + 1, 1<<32 + 16, 1<<63 - 1, 1 << 63, 1<<63 + 1, 1<<63 + 10, top - 255, top - 254, top - 1, top}

// want is what the chapter says of a size that is not above the greatest one, and a multiple that may be.
func want(n, multiple uint64) api.Need {
	n = max(n, 1)
	if multiple <= 16 {
		for class, c := range classes {
			if uint64(c.payload) >= n {
				return api.Need{Small: true, Class: class, Charge: c.payload}
			}
		}
	}
	pages := 0
	for uint64(pages)*256 < n {
		pages++
	}
	return api.Need{Pages: pages, Charge: pages * 256}
}

// P3.1
func TestPayloadSlotCount(t *testing.T) {
	for class, c := range classes {
		if n, e := size.Payload(class); n != c.payload || e != api.OK {
			t.Errorf("Payload(%d): %d %v, want %d", class, n, e, c.payload)
		}
		if n, e := size.Slot(class); n != c.slot || e != api.OK {
			t.Errorf("Slot(%d): %d %v, want %d", class, n, e, c.slot)
		}
		if n, e := size.Count(class); n != c.count || e != api.OK {
			t.Errorf("Count(%d): %d %v, want %d", class, n, e, c.count)
		}
	}
}

// P3.1
func TestPayloadSlotCountRefuse(t *testing.T) {
	for _, class := range noClasses {
		if n, e := size.Payload(class); n != 0 || e != api.ErrArg {
			t.Errorf("Payload(%d): %d %v, want ErrArg", class, n, e)
		}
		if n, e := size.Slot(class); n != 0 || e != api.ErrArg {
			t.Errorf("Slot(%d): %d %v, want ErrArg", class, n, e)
		}
		if n, e := size.Count(class); n != 0 || e != api.ErrArg {
			t.Errorf("Count(%d): %d %v, want ErrArg", class, n, e)
		}
	}
}

// P3.1
func TestClass(t *testing.T) {
	for _, c := range []struct{ size, class int }{
		{0, 0}, {1, 0}, {15, 0}, {16, 0}, {17, 1}, {31, 1}, {32, 1}, {33, 2}, {48, 2}, {49, 3}, {64, 3}, {65, 4}, {96, 4},
		{97, 5}, {128, 5}, {129, 6}, {192, 6}, {193, 7}, {255, 7}, {256, 7},
	} {
		if class, is := size.Class(c.size); class != c.class || !is {
			t.Errorf("Class(%d): %d %v, want %d", c.size, class, is, c.class)
		}
	}
}

// P3.1
func TestClassIsTheLeast(t *testing.T) {
	for n := range 257 {
		class, is := size.Class(n)
		if !is || class < 0 || class >= len(classes) {
			t.Fatalf("Class(%d): %d %v", n, class, is)
		}
		if classes[class].payload < n || class > 0 && classes[class-1].payload >= n {
			t.Errorf("Class(%d): %d", n, class)
		}
	}
}

// P3.1
func TestClassOfWhatNoneHolds(t *testing.T) {
	for _, n := range []int{
		257, 258, 288, 300, 512, 65536, api.MaxSize, api.MaxSize + 1, 1 << 31, 1 << 32, 1<<32 + 1, 1<<32 + 16, math.MaxInt - 1, math.MaxInt,
		-1, -2, -16, -255, -256, -257, -1 << 31, -1 << 32, 1 - 1<<32, math.MinInt, math.MinInt + 1, math.MinInt + 16,
	} {
		if class, is := size.Class(n); class != 0 || is {
			t.Errorf("Class(%d): %d %v, want none", n, class, is)
		}
	}
}

// pair is what All tells of a class.
type pair struct{ class, payload int }

func pairs() []pair {
	var l []pair
	for class, c := range classes {
		l = append(l, pair{class, c.payload})
	}
	return l
}

// P3.1
func TestAll(t *testing.T) {
	var got []pair
	for class, payload := range size.All() {
		got = append(got, pair{class, payload})
	}
	if !slices.Equal(got, pairs()) {
		t.Errorf("All: %v, want %v", got, pairs())
	}
	for _, p := range got {
		if n, e := size.Payload(p.class); n != p.payload || e != api.OK {
			t.Errorf("All tells %d of class %d, Payload %d %v", p.payload, p.class, n, e)
		}
	}
}

// P3.1
func TestAllLeftAtAnyTimeAndGoneOverAgain(t *testing.T) {
	all := size.All()
	whole := pairs()
	for most := range len(whole) + 1 {
		var got []pair
		all(func(class, payload int) bool {
			if len(got) > most {
				t.Fatalf("told on after it was left at %d", most)
			}
			got = append(got, pair{class, payload})
			return len(got) <= most
		})
		if !slices.Equal(got, whole[:min(most+1, len(whole))]) {
			t.Errorf("left behind %d: %v", most, got)
		}
	}
	var got []pair
	for a, payload := range all {
		inner := 0
		for b := range all {
			if b != inner {
				t.Fatalf("one within the other: %d, want %d", b, inner)
			}
			inner++
		}
		if inner != len(whole) {
			t.Fatalf("one within the other: %d classes", inner)
		}
		got = append(got, pair{a, payload})
	}
	if !slices.Equal(got, whole) {
		t.Errorf("gone over again: %v", got)
	}
}

// P3.2
func TestOf(t *testing.T) {
	for _, c := range []struct {
		size, multiple uint64
		want           api.Need
	}{
		{0, 1, api.Need{Small: true, Class: 0, Charge: 16}}, {0, 16, api.Need{Small: true, Class: 0, Charge: 16}},
		{1, 1, api.Need{Small: true, Class: 0, Charge: 16}}, {16, 16, api.Need{Small: true, Class: 0, Charge: 16}},
		{17, 16, api.Need{Small: true, Class: 1, Charge: 32}}, {17, 8, api.Need{Small: true, Class: 1, Charge: 32}},
		{100, 2, api.Need{Small: true, Class: 5, Charge: 128}}, {193, 4, api.Need{Small: true, Class: 7, Charge: 256}},
		{256, 1, api.Need{Small: true, Class: 7, Charge: 256}}, {256, 16, api.Need{Small: true, Class: 7, Charge: 256}},
		{0, 32, api.Need{Pages: 1, Charge: 256}}, {1, 32, api.Need{Pages: 1, Charge: 256}}, {10, 64, api.Need{Pages: 1, Charge: 256}},
		{0, 256, api.Need{Pages: 1, Charge: 256}}, {256, 32, api.Need{Pages: 1, Charge: 256}}, {256, 256, api.Need{Pages: 1, Charge: 256}},
		{257, 1, api.Need{Pages: 2, Charge: 512}}, {257, 256, api.Need{Pages: 2, Charge: 512}}, {300, 1, api.Need{Pages: 2, Charge: 512}},
		{511, 16, api.Need{Pages: 2, Charge: 512}}, {512, 16, api.Need{Pages: 2, Charge: 512}}, {513, 16, api.Need{Pages: 3, Charge: 768}},
		{65535, 1, api.Need{Pages: 256, Charge: 65536}}, {65536, 1, api.Need{Pages: 256, Charge: 65536}}, {65537, 1, api.Need{Pages: 257, Charge: 65792}},
		{261888, 1, api.Need{Pages: 1023, Charge: 261888}}, {261889, 1, api.Need{Pages: 1024, Charge: 262144}},
		{262144, 1, api.Need{Pages: 1024, Charge: 262144}}, {262144, 256, api.Need{Pages: 1024, Charge: 262144}},
	} {
		if n, e := size.Of(c.size, c.multiple); n != c.want || e != api.OK {
			t.Errorf("Of(%d, %d): %+v %v, want %+v", c.size, c.multiple, n, e, c.want)
		}
	}
}

// P3.2
func TestOfEachSmallSize(t *testing.T) {
	for _, multiple := range multiples {
		for n := range uint64(2000) {
			if got, e := size.Of(n, multiple); got != want(n, multiple) || e != api.OK {
				t.Fatalf("Of(%d, %d): %+v %v, want %+v", n, multiple, got, e, want(n, multiple))
			}
		}
	}
}

// P3.2
func TestOfRefusesSizes(t *testing.T) {
	for _, n := range noSizes {
		for _, multiple := range slices.Concat(multiples, noMultiples) {
			if got, e := size.Of(n, multiple); got != (api.Need{}) || e != api.ErrArg {
				t.Errorf("Of(%d, %d): %+v %v, want ErrArg", n, multiple, got, e)
			}
		}
	}
}

// P3.2
func TestOfRefusesMultiples(t *testing.T) {
	for _, multiple := range noMultiples {
		for _, n := range []uint64{0, 1, 10, 16, 17, 256, 257, 300, 65536, api.MaxSize - 1, api.MaxSize} {
			if got, e := size.Of(n, multiple); got != (api.Need{}) || e != api.ErrArg {
				t.Errorf("Of(%d, %d): %+v %v, want ErrArg", n, multiple, got, e)
			}
		}
	}
}

// P3.2
func TestOfTakesPowersUpToAPage(t *testing.T) {
	for multiple := range uint64(2000) {
		e := api.ErrArg
		if slices.Contains(multiples, multiple) {
			e = api.OK
		}
		if got, f := size.Of(10, multiple); f != e || e != api.OK && got != (api.Need{}) {
			t.Errorf("Of(10, %d): %+v %v, want %v", multiple, got, f, e)
		}
	}
}

// P3.2
func TestTotal(t *testing.T) {
	for _, c := range []struct {
		many, each, want uint64
		e                api.Errno
	}{
		{0, 0, 0, api.OK}, {0, 1, 0, api.OK}, {1, 0, 0, api.OK}, {0, top, 0, api.OK}, {top, 0, 0, api.OK}, {0, api.MaxSize + 1, 0, api.OK}, {1 << 63, 0, 0, api.OK},
		{1, 1, 1, api.OK}, {3, 100, 300, api.OK}, {100, 3, 300, api.OK}, {1, 257, 257, api.OK}, {7, 11, 77, api.OK},
		{1, 262144, 262144, api.OK}, {262144, 1, 262144, api.OK}, {512, 512, 262144, api.OK}, {2, 131072, 262144, api.OK}, {3, 87381, 262143, api.OK},
		{1, 262145, 0, api.ErrArg}, {262145, 1, 0, api.ErrArg}, {5, 52429, 0, api.ErrArg}, {3, 87382, 0, api.ErrArg}, {512, 513, 0, api.ErrArg}, {2, 131073, 0, api.ErrArg},
		{262144, 2, 0, api.ErrArg}, {262144, 262144, 0, api.ErrArg}, {1, top, 0, api.ErrArg}, {top, 1, 0, api.ErrArg}, {top, top, 0, api.ErrArg},
		// What these come to is small, if the bits above the 64th are left out.
		{1 << 63, 2, 0, api.ErrArg}, {2, 1 << 63, 0, api.ErrArg}, {1 << 32, 1 << 32, 0, api.ErrArg}, {1<<63 + 1, 2, 0, api.ErrArg},
		{3, top/3*2 + 1, 0, api.ErrArg}, {1<<62 + 25, 4, 0, api.ErrArg}, {1 << 31, 2, 0, api.ErrArg}, {1<<31 + 5, 2, 0, api.ErrArg}, {1 << 16, 1 << 16, 0, api.ErrArg},
	} {
		if n, e := size.Total(c.many, c.each); n != c.want || e != c.e {
			t.Errorf("Total(%d, %d): %d %v, want %d %v", c.many, c.each, n, e, c.want, c.e)
		}
	}
}

// P3.2
func TestTotalIsExact(t *testing.T) {
	l := []uint64{0, 3, 5, 7, 100, 1000, 87381, 87382, 0x0102030405060708, 0xaaaaaaaaaaaaaaab, top - 1, top}
	for bit := range 64 {
		n := uint64(1) << bit
		l = append(l, n-1, n, n+1)
	}
	for _, many := range l {
		for _, each := range l {
			all := new(big.Int).Mul(new(big.Int).SetUint64(many), new(big.Int).SetUint64(each))
			wanted, e := uint64(0), api.ErrArg
			if all.IsUint64() && all.Uint64() <= 262144 {
				wanted, e = all.Uint64(), api.OK
			}
			if n, f := size.Total(many, each); n != wanted || f != e {
				t.Fatalf("Total(%d, %d): %d %v, want %d %v", many, each, n, f, wanted, e)
			}
		}
	}
}

// P3.3
func TestANeedHoldsItsSizeAndNoLessWould(t *testing.T) {
	for _, multiple := range multiples {
		charge := 0
		for n := range uint64(api.MaxSize + 1) {
			x, e := size.Of(n, multiple)
			if e != api.OK {
				t.Fatalf("Of(%d, %d): %v", n, multiple, e)
			}
			if x.Charge < charge {
				t.Fatalf("Of(%d, %d) is charged %d, one less %d", n, multiple, x.Charge, charge)
			}
			charge = x.Charge
			if uint64(charge) < max(n, 1) {
				t.Fatalf("Of(%d, %d) holds %d", n, multiple, charge)
			}
			if x.Small {
				checkSmall(t, n, multiple, x)
			} else {
				checkPages(t, n, multiple, x)
			}
		}
	}
}

func checkSmall(t *testing.T, n, multiple uint64, x api.Need) {
	t.Helper()
	class, is := size.Class(int(n))
	payload, e := size.Payload(x.Class)
	if multiple > 16 || !is || x.Class != class || e != api.OK || x.Charge != payload || x.Pages != 0 {
		t.Fatalf("Of(%d, %d): %+v", n, multiple, x)
	}
	if x.Class == 0 {
		return
	}
	if less, e := size.Payload(x.Class - 1); e != api.OK || uint64(less) >= n {
		t.Fatalf("Of(%d, %d): %+v, but a class less has %d %v", n, multiple, x, less, e)
	}
}

func checkPages(t *testing.T, n, multiple uint64, x api.Need) {
	t.Helper()
	if multiple <= 16 && n <= 256 || x.Class != 0 || x.Pages < 1 || x.Charge != 256*x.Pages {
		t.Fatalf("Of(%d, %d): %+v", n, multiple, x)
	}
	if x.Pages > 1 && uint64(256*(x.Pages-1)) >= n {
		t.Fatalf("Of(%d, %d): %+v, but a page less would hold it", n, multiple, x)
	}
}

// P3.3
func TestSlotsAndTheirPlacesAreMultiples(t *testing.T) {
	for class := range classes {
		payload, _ := size.Payload(class)
		slot, e := size.Slot(class)
		count, f := size.Count(class)
		if e != api.OK || f != api.OK || slot < 1 || count < 1 {
			t.Fatalf("Slot, Count(%d): %d %v %d %v", class, slot, e, count, f)
		}
		if slot != 16+payload+16 || count*slot > region || (count+1)*slot <= region {
			t.Errorf("class %d: %d slots of %d bytes", class, count, slot)
		}
		for index := range count {
			if at := index * slot; at%16 != 0 || (at+16)%16 != 0 {
				t.Errorf("class %d: slot %d lies at %d", class, index, at)
			}
		}
	}
}

// Rules: what a call answers does not hang on what was called before.
func TestNothingIsKept(t *testing.T) {
	for range 3 {
		for _, n := range []uint64{300, top, 10, 0, 262145, 17} {
			for _, multiple := range []uint64{64, 1, 3, 16} {
				got, e := size.Of(n, multiple)
				if n > api.MaxSize || multiple == 3 {
					if got != (api.Need{}) || e != api.ErrArg {
						t.Errorf("Of(%d, %d): %+v %v, want ErrArg", n, multiple, got, e)
					}
				} else if got != want(n, multiple) || e != api.OK {
					t.Errorf("Of(%d, %d): %+v %v", n, multiple, got, e)
				}
			}
		}
		for class := range size.All() {
			if class == 3 {
				break
			}
		}
		if class, is := size.Class(1000); class != 0 || is {
			t.Errorf("Class(1000): %d %v", class, is)
		}
		if class, is := size.Class(40); class != 2 || !is {
			t.Errorf("Class(40): %d %v", class, is)
		}
	}
}
