package word_test

import (
	"bytes"
	"math"
	"slices"
	"testing"

	"pinfold/api"
	"pinfold/word"
)

// tops are the greatest numbers of the widths.
var tops = map[int]uint64{1: math.MaxUint8, 2: math.MaxUint16, 4: math.MaxUint32, 8: math.MaxUint64}

// noWidths are numbers that are no width: those between, those beyond, those that a narrower kind would cut to a width.
var noWidths = []int{0, 3, 5, 6, 7, 9, 10, 12, 16, 32, 64, 257, 258, 1<<32 + 1, 1<<32 + 4, 1<<32 + 8, math.MaxInt, -1, -2, -4, -8, math.MinInt, math.MinInt + 8}

// numbers are 0, all bits by themselves, their neighbours, and some that have all bytes different.
func numbers() []uint64 {
	l := []uint64{0, 0x0102030405060708, 0xf1e2d3c4b5a69788, 0x8000000000000001, math.MaxUint64}
	for bit := range 64 {
		n := uint64(1) << bit
		l = append(l, n-1, n, n+1)
	}
	return l
}

// P1.1
func TestPutLowestAhead(t *testing.T) {
	for _, c := range []struct {
		n     uint64
		width int
		want  string
	}{
		{0, 1, "\x00"}, {0, 2, "\x00\x00"}, {0, 4, "\x00\x00\x00\x00"}, {0, 8, "\x00\x00\x00\x00\x00\x00\x00\x00"},
		{7, 1, "\x07"}, {255, 1, "\xff"}, {258, 2, "\x02\x01"}, {256, 2, "\x00\x01"}, {65535, 2, "\xff\xff"},
		{0x01020304, 4, "\x04\x03\x02\x01"}, {5, 4, "\x05\x00\x00\x00"}, {math.MaxUint32, 4, "\xff\xff\xff\xff"},
		{0x0102030405060708, 8, "\x08\x07\x06\x05\x04\x03\x02\x01"}, {1 << 63, 8, "\x00\x00\x00\x00\x00\x00\x00\x80"},
		{math.MaxUint64, 8, "\xff\xff\xff\xff\xff\xff\xff\xff"},
	} {
		if b, e := word.Put(c.n, c.width); string(b) != c.want || e != api.OK {
			t.Errorf("Put(%d, %d): %x %v, want %x", c.n, c.width, b, e, c.want)
		}
	}
}

// P1.1
func TestPutRefuses(t *testing.T) {
	for width, top := range tops {
		if width == 8 {
			continue
		}
		for _, n := range []uint64{top + 1, top + 2, (top + 1) << 1, 1 << 63, math.MaxUint64} {
			if b, e := word.Put(n, width); b != nil || e != api.ErrRange {
				t.Errorf("Put(%d, %d): %x %v, want ErrRange", n, width, b, e)
			}
		}
	}
	for _, width := range noWidths {
		for _, n := range []uint64{0, 1, 255, 256, math.MaxUint64} {
			if b, e := word.Put(n, width); b != nil || e != api.ErrArg {
				t.Errorf("Put(%d, %d): %x %v, want ErrArg", n, width, b, e)
			}
		}
	}
}

// P1.1
func TestPutIsNewMemory(t *testing.T) {
	a, _ := word.Put(258, 2)
	a[0], a[1] = 9, 9
	if b, _ := word.Put(258, 2); string(b) != "\x02\x01" {
		t.Errorf("a second Put: %x", b)
	}
}

// P1.1
func TestGet(t *testing.T) {
	for _, c := range []struct {
		b    string
		want uint64
	}{
		{"\x00", 0}, {"\x07", 7}, {"\xff", 255}, {"\x02\x01", 258}, {"\x00\x80", 1 << 15}, {"\xff\xff", 65535},
		{"\x04\x03\x02\x01", 0x01020304}, {"\x00\x00\x00\x80", 1 << 31}, {"\xff\xff\xff\xff", math.MaxUint32},
		{"\x08\x07\x06\x05\x04\x03\x02\x01", 0x0102030405060708}, {"\x00\x00\x00\x00\x00\x00\x00\x80", 1 << 63},
		{"\xff\xff\xff\xff\xff\xff\xff\xff", math.MaxUint64},
	} {
		if n, e := word.Get([]byte(c.b)); n != c.want || e != api.OK {
			t.Errorf("Get(%x): %d %v, want %d", c.b, n, e, c.want)
		}
	}
}

// P1.1
func TestGetRefuses(t *testing.T) {
	for many := range 40 {
		if _, is := tops[many]; is {
			continue
		}
		if n, e := word.Get(bytes.Repeat([]byte{1}, many)); n != 0 || e != api.ErrArg {
			t.Errorf("Get of %d bytes: %d %v, want ErrArg", many, n, e)
		}
	}
	for _, many := range []int{256, 257, 258, 260, 264, 65537, 65544} {
		if n, e := word.Get(make([]byte, many)); n != 0 || e != api.ErrArg {
			t.Errorf("Get of %d bytes: %d %v, want ErrArg", many, n, e)
		}
	}
	if n, e := word.Get(nil); n != 0 || e != api.ErrArg {
		t.Errorf("Get of nil: %d %v, want ErrArg", n, e)
	}
}

// P1.2
func TestZeroAndFirst(t *testing.T) {
	for _, c := range []struct {
		b     string
		first int
	}{
		{"", -1}, {"\x00", -1}, {"\x00\x00", -1}, {"\x05", 0}, {"\x00\x05", 1}, {"\x05\x00", 0},
		{"\x00\x00\x01\x00\x02", 2}, {"\x80", 0}, {"\x00\xff", 1}, {"0", 0},
	} {
		if got := word.First([]byte(c.b)); got != c.first {
			t.Errorf("First(%x): %d, want %d", c.b, got, c.first)
		}
		if got := word.Zero([]byte(c.b)); got != (c.first == -1) {
			t.Errorf("Zero(%x): %v", c.b, got)
		}
	}
	if !word.Zero(nil) || word.First(nil) != -1 {
		t.Error("Zero, First of nil")
	}
}

// P1.2
func TestFirstFindsEachPlaceAndByte(t *testing.T) {
	b := make([]byte, 300)
	for at := range b {
		b[at] = byte(at%255 + 1)
		if got := word.First(b); got != at || word.Zero(b) {
			t.Errorf("First, Zero of %d at %d alone: %d %v", b[at], at, got, word.Zero(b))
		}
		b[at] = 0
	}
	if !word.Zero(b) || word.First(b) != -1 {
		t.Error("Zero, First of 300 noughts")
	}
}

// P1.2
func TestZeroAndFirstLeaveSpareRoomOut(t *testing.T) {
	if b := []byte{0, 0, 7}[:2]; !word.Zero(b) || word.First(b) != -1 {
		t.Error("Zero, First looked behind the last byte")
	}
}

// P1.2, P1.4
func TestDiffer(t *testing.T) {
	for _, c := range []struct {
		a, b string
		want int
	}{
		{"", "", -1}, {"a", "a", -1}, {"abc", "abc", -1}, {"\x00\x00", "\x00\x00", -1},
		{"\x01\x02", "\x01\x03", 1}, {"\x01", "\x01\x00", 1}, {"", "\x00", 0}, {"", "abc", 0},
		{"abc", "xbc", 0}, {"abc", "axc", 1}, {"abc", "abx", 2}, {"abc", "xyz", 0}, {"abc", "ab", 2},
		{"abc", "axcdef", 1}, {"abc", "abcdef", 3}, {"\x7f", "\xff", 0},
	} {
		if got := word.Differ([]byte(c.a), []byte(c.b)); got != c.want {
			t.Errorf("Differ(%x, %x): %d, want %d", c.a, c.b, got, c.want)
		}
		if got := word.Differ([]byte(c.b), []byte(c.a)); got != c.want {
			t.Errorf("Differ(%x, %x): %d, want %d", c.b, c.a, got, c.want)
		}
	}
	if word.Differ(nil, []byte{}) != -1 || word.Differ(nil, nil) != -1 || word.Differ(nil, []byte{0}) != 0 || word.Differ([]byte{0}, nil) != 0 {
		t.Error("Differ of nil")
	}
}

// P1.2
func TestDifferLeavesSpareRoomOut(t *testing.T) {
	if got := word.Differ([]byte{1, 2, 3}[:2], []byte{1, 2, 4}[:2]); got != -1 {
		t.Errorf("Differ looked behind the last byte: %d", got)
	}
}

// part is what an iterator told.
type part struct {
	at int
	b  string
}

func told(b []byte, size int) []part {
	var l []part
	for at, x := range word.Parts(b, size) {
		l = append(l, part{at, string(x)})
	}
	return l
}

// P1.3
func TestParts(t *testing.T) {
	for _, c := range []struct {
		b    string
		size int
		want []part
	}{
		{"abcde", 2, []part{{0, "ab"}, {2, "cd"}, {4, "e"}}},
		{"abcde", 1, []part{{0, "a"}, {1, "b"}, {2, "c"}, {3, "d"}, {4, "e"}}},
		{"abcdef", 3, []part{{0, "abc"}, {3, "def"}}},
		{"abcde", 4, []part{{0, "abcd"}, {4, "e"}}},
		{"abcde", 5, []part{{0, "abcde"}}},
		{"abcde", 6, []part{{0, "abcde"}}},
		{"abcde", math.MaxInt - 1, []part{{0, "abcde"}}},
		{"abcde", math.MaxInt, []part{{0, "abcde"}}},
		{"abcde", 0, nil}, {"abcde", -1, nil}, {"abcde", -5, nil}, {"abcde", math.MinInt, nil},
		{"", 1, nil}, {"", 0, nil}, {"", math.MaxInt, nil}, {"", math.MinInt, nil},
	} {
		if got := told([]byte(c.b), c.size); !slices.Equal(got, c.want) {
			t.Errorf("Parts(%q, %d): %v, want %v", c.b, c.size, got, c.want)
		}
	}
	if got := told(nil, 3); got != nil {
		t.Errorf("Parts(nil, 3): %v", got)
	}
}

// P1.3
func TestPartsLeftAtAnyTimeAndGoneOverAgain(t *testing.T) {
	all := word.Parts([]byte("abcdefg"), 2)
	want := []part{{0, "ab"}, {2, "cd"}, {4, "ef"}, {6, "g"}}
	for most := range len(want) + 1 {
		var got []part
		all(func(at int, x []byte) bool {
			if len(got) > most {
				t.Fatalf("told on after it was left at %d", most)
			}
			got = append(got, part{at, string(x)})
			return len(got) <= most
		})
		if !slices.Equal(got, want[:min(most+1, len(want))]) {
			t.Errorf("left behind %d: %v", most, got)
		}
	}
	pairs := 0
	for i := range all {
		for j := range all {
			if i%2 == 0 && j%2 == 0 {
				pairs++
			}
		}
	}
	if pairs != len(want)*len(want) {
		t.Errorf("one within the other: %d pairs", pairs)
	}
}

// P1.3
func TestPartsAreNewMemory(t *testing.T) {
	b := []byte("abcdeXY")[:5]
	all := word.Parts(b, 2)
	for _, x := range all {
		x[0] = '-'
		_ = append(x, '+', '+')
	}
	if string(b[:7]) != "abcdeXY" {
		t.Errorf("what was handed in changed: %q", b[:7])
	}
	b[0], b[4] = '1', '5'
	want := []part{{0, "ab"}, {2, "cd"}, {4, "e"}}
	var got []part
	for at, x := range all {
		got = append(got, part{at, string(x)})
	}
	if !slices.Equal(got, want) {
		t.Errorf("gone over again: %v", got)
	}
}

// P1.3
func TestJoined(t *testing.T) {
	for _, c := range []struct {
		l    [][]byte
		want string
	}{
		{nil, ""}, {[][]byte{}, ""}, {[][]byte{nil}, ""}, {[][]byte{nil, {}, nil}, ""},
		{[][]byte{[]byte("abc")}, "abc"}, {[][]byte{[]byte("ab"), []byte("c")}, "abc"},
		{[][]byte{[]byte("c"), []byte("ab")}, "cab"}, {[][]byte{nil, []byte("a"), {}, []byte("a"), nil}, "aa"},
		{[][]byte{{0}, {0, 0}, {1}}, "\x00\x00\x00\x01"},
	} {
		if got := word.Joined(c.l...); string(got) != c.want {
			t.Errorf("Joined(%q): %q, want %q", c.l, got, c.want)
		}
	}
	if len(word.Joined()) != 0 {
		t.Error("Joined of none")
	}
}

// P1.3
func TestJoinedIsNewMemory(t *testing.T) {
	a, b := []byte("abXY")[:2], []byte("cd")
	for _, got := range [][]byte{word.Joined(a), word.Joined(a, b), word.Joined(nil, a), word.Joined(a, nil)} {
		for i := range got {
			got[i] = '-'
		}
		_ = append(got, '+', '+')
	}
	if string(a[:4]) != "abXY" || string(b) != "cd" {
		t.Errorf("what was handed in changed: %q %q", a[:4], b)
	}
}

// P1.4
func TestGetOfPut(t *testing.T) {
	for _, n := range numbers() {
		for width, top := range tops {
			b, e := word.Put(n, width)
			if n > top {
				if b != nil || e != api.ErrRange {
					t.Errorf("Put(%d, %d): %x %v, want ErrRange", n, width, b, e)
				}
				continue
			}
			back, f := word.Get(b)
			if len(b) != width || e != api.OK || back != n || f != api.OK {
				t.Errorf("Get of Put(%d, %d): %x %v, %d %v", n, width, b, e, back, f)
			}
		}
	}
}

// P1.4
func TestPutOfGet(t *testing.T) {
	for width := range tops {
		for at := range width {
			for x := range 256 {
				b := []byte{11, 22, 33, 44, 55, 66, 77, 88}[:width]
				b[at] = byte(x)
				n, e := word.Get(b)
				back, f := word.Put(n, width)
				if e != api.OK || f != api.OK || !bytes.Equal(back, b) {
					t.Errorf("Put of Get(%x): %x %v %v", b, back, e, f)
				}
			}
		}
	}
}

// P1.4
func TestJoinedOfParts(t *testing.T) {
	b := make([]byte, 67)
	for i := range b {
		b[i] = byte(7*i + 3)
	}
	for many := range len(b) + 1 {
		for _, size := range []int{1, 2, 3, 7, 64, many, many + 1, math.MaxInt} {
			if size < 1 {
				continue
			}
			var l [][]byte
			for _, x := range word.Parts(b[:many], size) {
				l = append(l, x)
			}
			if got := word.Joined(l...); !bytes.Equal(got, b[:many]) {
				t.Errorf("Joined of the parts of %d bytes, by %d: %x", many, size, got)
			}
		}
	}
}

// P1.4
func TestDifferAtTheSamePlaceEitherWay(t *testing.T) {
	a := []byte("the same bytes, but for one")
	if got := word.Differ(a, a); got != -1 {
		t.Errorf("bytes differ from themselves at %d", got)
	}
	for at := range a {
		b := bytes.Clone(a)
		b[at] ^= 1
		for _, got := range []int{word.Differ(a, b), word.Differ(b, a), word.Differ(a, a[:at]), word.Differ(a[:at], a)} {
			if got != at {
				t.Errorf("they differ at %d, told is %d", at, got)
			}
		}
		if got := word.Differ(b, bytes.Clone(b)); got != -1 {
			t.Errorf("the same bytes differ at %d", got)
		}
	}
}

// Rules: what is handed in is not changed.
func TestNothingIsChanged(t *testing.T) {
	b := []byte{0, 3, 0, 5, 9, 9}[:4]
	word.Get(b)
	word.Zero(b)
	word.First(b)
	word.Differ(b, b[:2])
	l := [][]byte{b, b[:1]}
	word.Joined(l...)
	for range word.Parts(b, 3) {
	}
	if string(b[:6]) != "\x00\x03\x00\x05\x09\x09" || len(l[0]) != 4 || len(l[1]) != 1 {
		t.Errorf("changed: %x %d %d", b[:6], len(l[0]), len(l[1]))
	}
}
