package mix_test

import (
	"iter"
	"math"
	"math/rand"
	"slices"
	"testing"

	"pinfold/api"
	"pinfold/mix"
)

const top = math.MaxUint64

// halves are 0, those beside powers of 2, and some without a shape.
func halves() []uint32 {
	l := []uint32{0, 25, 12345, 0x12345678, 0x9abcdef0, 2654435769}
	for k := range 32 {
		l = append(l, 1<<k-1, 1<<k, 1<<k+1, -(1 << k), ^uint32(1<<k))
	}
	r := rand.New(rand.NewSource(5))
	for range 60 {
		l = append(l, r.Uint32())
	}
	return l
}

// words are 0, those beside powers of 2, of equal and unlike halves, and some without a shape.
func words() []uint64 {
	l := []uint64{0, 5, 7, 9, 1<<32 + 7, 7<<32 + 1, 1<<32 + 1, 0x0123456789abcdef, 0xfedcba9876543210, 0xdeadbeefcafebabe, 0xffffffff00000000, top, top - 1}
	for k := range 64 {
		l = append(l, 1<<k, 1<<k-1, ^uint64(1<<k))
	}
	r := rand.New(rand.NewSource(6))
	for range 60 {
		l = append(l, r.Uint64())
	}
	slices.Sort(l)
	return slices.Compact(l)
}

// What the chapter says, in numbers wide enough that nothing is lost ahead of its remainder.

func remainder(n uint64) uint64 { return n % (1 << 32) }

func turned(n uint64, by int) uint64 {
	for range by {
		n = n*2%(1<<32) + n/(1<<31)
	}
	return n
}

func wantStir(half, by uint64) uint64 {
	x := remainder(half + by)
	x ^= turned(x, 7)
	return turned(remainder(x*5+12345), 13)
}

func wantRound(key uint64, n int) uint64 {
	half := key % (1 << 32)
	if n == 1 || n == 3 || n == 5 || n == 7 {
		half = key / (1 << 32)
	}
	return remainder(half + uint64(n)*2654435769)
}

func wantMix(key, word uint64) uint64 {
	high, low := word/(1<<32), word%(1<<32)
	for n := range 8 {
		high, low = low, high^wantStir(low, wantRound(key, n))
	}
	return high*(1<<32) + low
}

func wantFold(l ...uint64) uint64 {
	all := uint64(0)
	for _, w := range l {
		all = wantMix(w, all) ^ w
	}
	return all
}

// P5.1, P5.2, the examples
func TestExamples(t *testing.T) {
	if n := mix.Stir(0, 0); n != 101130240 {
		t.Errorf("Stir(0, 0): %d", n)
	}
	if n, e := mix.Round(1<<32+7, 0); n != 7 || e != api.OK {
		t.Errorf("Round(2^32 + 7, 0): %d %v", n, e)
	}
	if n, e := mix.Round(1<<32+7, 1); n != 2654435770 || e != api.OK {
		t.Errorf("Round(2^32 + 7, 1): %d %v", n, e)
	}
	if n, e := mix.Round(0, 8); n != 0 || e != api.ErrRange {
		t.Errorf("Round(0, 8): %d %v", n, e)
	}
	if n := mix.Undo(9, mix.Mix(9, 5)); n != 5 {
		t.Errorf("Undo(9, Mix(9, 5)): %d", n)
	}
	if n := mix.Fold(); n != 0 {
		t.Errorf("Fold(): %d", n)
	}
}

// P5.1, by numbers worked out apart from the program
func TestStirOfKnownHalves(t *testing.T) {
	for _, c := range [][3]uint32{
		{0, 0, 101130240}, {1, 0, 106414080}, {0, 1, 106414080},
		{4294967295, 0, 101130240}, {4294967295, 1, 101130240}, {4294967295, 4294967295, 106414080},
		{2147483648, 2147483648, 101130240}, {2147483648, 0, 103755776},
		{0x12345678, 0x9abcdef0, 919463107}, {25, 0, 233226240}, {1 << 25, 0, 101171520},
	} {
		if n := mix.Stir(c[0], c[1]); n != c[2] {
			t.Errorf("Stir(%d, %d): %d, want %d", c[0], c[1], n, c[2])
		}
	}
}

// P5.1
func TestStir(t *testing.T) {
	for _, half := range halves() {
		for _, by := range halves() {
			if n, want := mix.Stir(half, by), wantStir(uint64(half), uint64(by)); uint64(n) != want {
				t.Fatalf("Stir(%d, %d): %d, want %d", half, by, n, want)
			}
		}
	}
}

// P5.1, by numbers worked out apart from the program
func TestRoundOfKnownKeys(t *testing.T) {
	for _, c := range []struct {
		key  uint64
		want [8]uint32
	}{
		{0, [8]uint32{0, 2654435769, 1013904242, 3668340011, 2027808484, 387276957, 3041712726, 1401181199}},
		{1<<32 + 7, [8]uint32{7, 2654435770, 1013904249, 3668340012, 2027808491, 387276958, 3041712733, 1401181200}},
		{top, [8]uint32{4294967295, 2654435768, 1013904241, 3668340010, 2027808483, 387276956, 3041712725, 1401181198}},
		{0x0123456789abcdef, [8]uint32{2309737967, 2673524512, 3323642209, 3687428754, 42579155, 406365700, 1056483397, 1420269942}},
		{0xfedcba9876543210, [8]uint32{1985229328, 2635347025, 2999133570, 3649251267, 4013037812, 368188213, 731974758, 1382092455}},
	} {
		for n, want := range c.want {
			if got, e := mix.Round(c.key, n); got != want || e != api.OK {
				t.Errorf("Round(%#x, %d): %d %v, want %d", c.key, n, got, e, want)
			}
		}
	}
}

// P5.1
func TestRound(t *testing.T) {
	for _, key := range words() {
		for n := range 8 {
			if got, e := mix.Round(key, n); uint64(got) != wantRound(key, n) || e != api.OK {
				t.Fatalf("Round(%#x, %d): %d %v, want %d", key, n, got, e, wantRound(key, n))
			}
		}
	}
}

// P5.1: round numbers that there are not, some so that a narrower kind would cut them to one that there is
func TestRoundRefuses(t *testing.T) {
	none := []int{8, 9, 10, 15, 16, 255, 256, 257, 263, 65536, 65543, 1 << 31, 1 << 32, 1<<32 + 3, 1 << 62, math.MaxInt32, math.MaxInt - 1, math.MaxInt, -1, -2, -7, -8, -9, -256, -65536, -1 << 31, -1 << 32, 3 - 1<<32, math.MinInt32, math.MinInt, math.MinInt + 1, math.MinInt + 7}
	for _, key := range words() {
		for _, n := range none {
			if got, e := mix.Round(key, n); got != 0 || e != api.ErrRange {
				t.Fatalf("Round(%#x, %d): %d %v, want ErrRange", key, n, got, e)
			}
		}
	}
}

// mixed are words, mixed by keys, worked out apart from the program.
var mixed = [][3]uint64{
	{0, 0, 0x5ff5b819d41821d1}, {0, 5, 0x31b0152d08e41e07}, {0, 1 << 32, 0xc6f7ab96dc117785}, {0, top, 0x5601704536b9a4f7}, {0, 0x0123456789abcdef, 0x6926852db1dd4e6f},
	{1, 0, 0xb5485f66a70dc57d}, {1, 5, 0x47ad29ae5236ec1f}, {1, 1 << 32, 0x368a96891112eff7}, {1, top, 0xdca44c59e0812f0e},
	{9, 0, 0xfd43e0af85a3379e}, {9, 5, 0x94960fcedea913d4}, {9, 1 << 32, 0xc8f6fab3f30e2eaf}, {9, top, 0x6b6171a25b78d1ed},
	{1 << 32, 0, 0x0ef7b60fd72376fc}, {1 << 32, 5, 0xe7adc78177135826}, {1 << 32, top, 0x4dbbc667613cf5d5},
	{1 << 63, 0, 0x178fcda3bc7e3026}, {1 << 63, 5, 0xfe151d45e2ef7ae6},
	{top, 0, 0xee3d589ab73c340b}, {top, 5, 0x23add7413e64d909}, {top, top, 0x542b7b4fb00fc591}, {top, 0x0123456789abcdef, 0xc04d3c85241140f2},
	{0x0123456789abcdef, 0, 0x242cf88b5918c956}, {0x0123456789abcdef, 0x0123456789abcdef, 0x0f0f534ac1f9dc65},
	{0xdeadbeefcafebabe, 0, 0x0dbca18de8f6fc6e}, {0xdeadbeefcafebabe, 1 << 32, 0x30c4fb9f9b5a8b93}, {0xdeadbeefcafebabe, 0x0123456789abcdef, 0x4c4c3000c5a33638},
}

// P5.1
func TestMixAndUndoOfKnownWords(t *testing.T) {
	for _, c := range mixed {
		if w := mix.Mix(c[0], c[1]); w != c[2] {
			t.Errorf("Mix(%#x, %#x): %#x, want %#x", c[0], c[1], w, c[2])
		}
		if w := mix.Undo(c[0], c[2]); w != c[1] {
			t.Errorf("Undo(%#x, %#x): %#x, want %#x", c[0], c[2], w, c[1])
		}
	}
}

// P5.1, P5.3
func TestMixAndUndo(t *testing.T) {
	l := words()
	for _, key := range l {
		for _, w := range l {
			m := mix.Mix(key, w)
			if m != wantMix(key, w) {
				t.Fatalf("Mix(%#x, %#x): %#x, want %#x", key, w, m, wantMix(key, w))
			}
			if u := mix.Undo(key, m); u != w {
				t.Fatalf("Undo(%#x, Mix of %#x): %#x", key, w, u)
			}
			if m := mix.Mix(key, mix.Undo(key, w)); m != w {
				t.Fatalf("Mix(%#x, Undo of %#x): %#x", key, w, m)
			}
		}
	}
}

// P5.3
func TestUnlikeWordsAreMixedToUnlikeOnes(t *testing.T) {
	l := words()
	for n := range uint64(5000) {
		l = append(l, n, n<<32)
	}
	slices.Sort(l)
	l = slices.Compact(l)
	for _, key := range []uint64{0, 1, 9, 1 << 32, 1<<32 + 7, 1 << 63, top, 0xdeadbeefcafebabe} {
		for name, does := range map[string]func(key, word uint64) uint64{"Mix": mix.Mix, "Undo": mix.Undo} {
			from := map[uint64]uint64{}
			for _, w := range l {
				x := does(key, w)
				if before, is := from[x]; is {
					t.Fatalf("%s(%#x, ..) of %#x and of %#x is %#x", name, key, before, w, x)
				}
				from[x] = w
			}
		}
	}
}

// folds are lists, and what they are folded to, worked out apart from the program.
func folds() []struct {
	l    []uint64
	want uint64
} {
	return []struct {
		l    []uint64
		want uint64
	}{
		{nil, 0}, {[]uint64{}, 0},
		{[]uint64{0}, 0x5ff5b819d41821d1}, {[]uint64{1}, 0xb5485f66a70dc57c}, {[]uint64{top}, 0x11c2a76548c3cbf4},
		{[]uint64{0, 0}, 0x3a400ac3bdc96975}, {[]uint64{1, 2}, 0x3ddd8b38e5a7ca52}, {[]uint64{2, 1}, 0x5cf949953a94f35d},
		{[]uint64{7, 256}, 0x5de39f190e96a895}, {[]uint64{256, 7}, 0x993856de5549d594}, {[]uint64{top, top}, 0xd51cbed060ce2e9f},
		{[]uint64{0, 0, 0}, 0xf04e52f63a9e916e}, {[]uint64{1, 2, 3, 4, 5}, 0xfaa8e77dce4ad388},
		{[]uint64{0x0123456789abcdef, 0, top, 1 << 32, 1 << 63}, 0xd9cb057fafa859eb},
	}
}

// P5.2
func TestFoldOfKnownWords(t *testing.T) {
	for _, c := range folds() {
		if w := mix.Fold(c.l...); w != c.want {
			t.Errorf("Fold(%#x): %#x, want %#x", c.l, w, c.want)
		}
	}
}

// P5.2, P5.3: one word more hangs on what the others are folded to, and on it, alone
func TestFold(t *testing.T) {
	l := words()
	r := rand.New(rand.NewSource(7))
	r.Shuffle(len(l), func(a, b int) { l[a], l[b] = l[b], l[a] })
	all := uint64(0)
	for many, w := range l {
		got := mix.Fold(l[:many+1]...)
		if got != mix.Mix(w, all)^w || got != wantFold(l[:many+1]...) {
			t.Fatalf("Fold of %d words: %#x, want %#x", many+1, got, wantFold(l[:many+1]...))
		}
		all = got
	}
	for _, w := range l {
		if got := mix.Fold(w); got != mix.Mix(w, 0)^w {
			t.Errorf("Fold(%#x): %#x", w, got)
		}
	}
}

// P5.2; Rules: what is handed in is not changed, spare room behind it included
func TestFoldChangesNothing(t *testing.T) {
	room := []uint64{1, 2, 3, 4, 5, 6, 7}
	if a, b := mix.Fold(room[:4]...), mix.Fold(room[:4]...); a != b || a != wantFold(1, 2, 3, 4) {
		t.Errorf("Fold: %#x, %#x", a, b)
	}
	if !slices.Equal(room, []uint64{1, 2, 3, 4, 5, 6, 7}) {
		t.Errorf("Fold changed what was handed in: %v", room)
	}
}

// P5.2: of many words too
func TestFoldOfMany(t *testing.T) {
	l := make([]uint64, 1<<16)
	for i := range l {
		l[i] = uint64(i) * 0x9e3779b97f4a7c15
	}
	if got, want := mix.Fold(l...), wantFold(l...); got != want {
		t.Errorf("Fold of %d words: %#x, want %#x", len(l), got, want)
	}
}

// begun are the first words of an iterator, as many as there are up to so many.
func begun(all iter.Seq[uint64], many int) []uint64 {
	var l []uint64
	if many < 1 {
		return l
	}
	for w := range all {
		l = append(l, w)
		if len(l) == many {
			break
		}
	}
	return l
}

// wantStream is the words from 0 on, mixed.
func wantStream(key uint64, many int) []uint64 {
	var l []uint64
	for n := 0; n < many; n++ {
		l = append(l, wantMix(key, uint64(n)))
	}
	return l
}

// P5.2, by numbers worked out apart from the program
func TestStreamOfKnownKeys(t *testing.T) {
	for key, want := range map[uint64][]uint64{
		0:   {0x5ff5b819d41821d1, 0xb5485f66a70dc57c, 0x8c1a9edfecc583bb, 0x913db719b89e393e},
		9:   {0xfd43e0af85a3379e, 0x23f29be0e8193360, 0x5450f6d666a414ea, 0xa86adc33a0efb0f6},
		top: {0xee3d589ab73c340b, 0x074ab0d295accdd7, 0x049f6abfe47ae53e, 0x6d8b302670af4c2b},
	} {
		if got := begun(mix.Stream(key, 4), 9); !slices.Equal(got, want) {
			t.Errorf("Stream(%#x, 4): %#x, want %#x", key, got, want)
		}
	}
}

// P5.2
func TestStream(t *testing.T) {
	for _, key := range []uint64{0, 1, 9, 1<<32 + 7, 1 << 63, top, 0xdeadbeefcafebabe} {
		for _, many := range []int{1, 2, 3, 7, 8, 9, 64, 255, 256, 257, 1000} {
			if got := begun(mix.Stream(key, many), many+5); !slices.Equal(got, wantStream(key, many)) {
				t.Errorf("Stream(%#x, %d): %#x", key, many, got)
			}
		}
	}
}

// P5.2
func TestStreamOfNone(t *testing.T) {
	for _, many := range []int{0, -1, -2, -8, -256, -1 << 31, -1 << 32, 5 - 1<<32, math.MinInt, math.MinInt + 1, math.MinInt + 5} {
		all := mix.Stream(9, many)
		if all == nil {
			t.Fatalf("Stream(9, %d) is not there", many)
		}
		for w := range all {
			t.Fatalf("Stream(9, %d) tells %#x", many, w)
		}
	}
}

// P5.2: words are told one by one, so that huge numbers of them may be left
func TestStreamOfHugeNumbers(t *testing.T) {
	for _, many := range []int{1 << 31, 1 << 32, 1<<32 + 1, 1 << 62, math.MaxInt - 1, math.MaxInt} {
		if got := begun(mix.Stream(9, many), 40); !slices.Equal(got, wantStream(9, 40)) {
			t.Errorf("Stream(9, %d): %#x", many, got)
		}
	}
}

// P5.2
func TestStreamLeftAtAnyTimeAndGoneOverAgain(t *testing.T) {
	for many := range 20 {
		all, whole := mix.Stream(7, many), wantStream(7, many)
		for left := 1; left <= many; left++ {
			var got []uint64
			all(func(w uint64) bool {
				if len(got) == left {
					t.Fatalf("of %d, told on after it was left behind %d", many, left)
				}
				got = append(got, w)
				return len(got) < left
			})
			if !slices.Equal(got, whole[:left]) {
				t.Errorf("of %d, left behind %d: %#x", many, left, got)
			}
		}
		for range 2 {
			if got := begun(all, many+5); !slices.Equal(got, whole) {
				t.Errorf("of %d, gone over again: %#x", many, got)
			}
		}
	}
}

// P5.2: one that is gone over within itself, and beside another one
func TestStreamsAreApart(t *testing.T) {
	all, other := mix.Stream(7, 6), mix.Stream(8, 6)
	var got []uint64
	for w := range all {
		got = append(got, w)
		if !slices.Equal(begun(all, 9), wantStream(7, 6)) || !slices.Equal(begun(other, 3), wantStream(8, 3)) {
			t.Fatal("one within another tells other words")
		}
	}
	if !slices.Equal(got, wantStream(7, 6)) {
		t.Errorf("Stream(7, 6): %#x", got)
	}
}

// Rules: what a call answers hangs on its arguments alone
func TestCallsAreTheSameAgain(t *testing.T) {
	first := []uint64{mix.Mix(3, 4), mix.Undo(3, 4), mix.Fold(3, 4), uint64(mix.Stir(3, 4))}
	for key := range uint64(300) {
		mix.Fold(key, mix.Mix(key, 1), mix.Undo(key, 2))
		mix.Round(key, int(key))
	}
	if again := []uint64{mix.Mix(3, 4), mix.Undo(3, 4), mix.Fold(3, 4), uint64(mix.Stir(3, 4))}; !slices.Equal(first, again) {
		t.Errorf("%#x, and then %#x", first, again)
	}
}
