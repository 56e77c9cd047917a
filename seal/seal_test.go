package seal_test

import (
	"bytes"
	"encoding/hex"
	"math"
	"slices"
	"testing"

	"pinfold/api"
	"pinfold/mix"
	"pinfold/seal"
)

const top = math.MaxUint64

// spot is a key and an address.
type spot struct {
	key uint64
	at  uint32
}

// spots are such that differ in a bit, that have both the other way round, that have both the same, and the greatest.
func spots() []spot {
	return []spot{
		{0, 0}, {0, 1}, {1, 0}, {7, 256}, {256, 7}, {7, 257}, {6, 256}, {7 + 1<<32, 256}, {7 + 1<<63, 256}, {7, 256 + 1<<31},
		{9, 9}, {1 << 32, 1}, {0x0123456789abcdef, 1048896}, {0xdeadbeefcafebabe, 1<<24 - 256}, {math.MaxUint32, math.MaxUint32}, {top, math.MaxUint32},
	}
}

// tags are of each class, of the sizes and nonces at both ends, beside powers of 2, and of payloads.
func tags() []api.Tag {
	var l []api.Tag
	for class := range api.Classes {
		for _, size := range []int{0, 1, 16, 20, 255, 256, 257, 32767, 32768, 65534, 65535} {
			for _, nonce := range []uint32{0, 1, 5, 65535, 65536, 1 << 31, math.MaxUint32} {
				l = append(l, api.Tag{Class: class, Size: size, Nonce: nonce})
			}
		}
	}
	return l
}

// noTags are those just beyond both ends, those beside powers of 2, and those that a narrower kind would cut to one that there is.
func noTags() []api.Tag {
	var l []api.Tag
	for _, class := range []int{-1, -7, -8, -9, 8, 9, 15, 16, 255, 256, 257, 65536, 1<<31 + 1, 1 << 32, 1<<32 + 1, math.MaxInt32, math.MaxInt, math.MinInt32, math.MinInt, math.MinInt + 1} {
		for _, size := range []int{0, 20, 65535, -1, 65536} {
			l = append(l, api.Tag{Class: class, Size: size, Nonce: 5})
		}
	}
	for _, size := range []int{-1, -16, -65535, -65536, 65536, 65537, 1 << 17, 1 << 31, 1 << 32, 1<<32 + 20, 1 << 48, math.MaxInt, math.MinInt, math.MinInt + 20} {
		for class := range api.Classes {
			l = append(l, api.Tag{Class: class, Size: size, Nonce: 5})
		}
	}
	return l
}

// What the chapter says, by numbers alone.

func wantWord(t api.Tag) uint64 {
	return uint64(t.Nonce) + uint64(t.Size)*(1<<32) + uint64(t.Class)*(1<<48)
}

// laid are the bytes of two words, the lowest ahead, mixed.
func laid(key, first, second uint64) []byte {
	var l []byte
	for _, w := range []uint64{mix.Mix(key, first), mix.Mix(key, second)} {
		for range 8 {
			l = append(l, byte(w%256))
			w /= 256
		}
	}
	return l
}

func wantHead(s spot, t api.Tag) []byte {
	return laid(mix.Fold(s.key, uint64(s.at)), wantWord(t), top-wantWord(t))
}

func wantTail(s spot, t api.Tag) []byte {
	return laid(mix.Fold(uint64(s.at), s.key), wantWord(t), top-wantWord(t))
}

// head and tail are what the program tells of tags that may be.

func head(t *testing.T, s spot, x api.Tag) []byte {
	t.Helper()
	b, e := seal.Head(s.key, s.at, x)
	if e != api.OK || len(b) != api.HeadBytes {
		t.Fatalf("Head at %v of %v: %x %v", s, x, b, e)
	}
	return b
}

func tail(t *testing.T, s spot, x api.Tag) []byte {
	t.Helper()
	b, e := seal.Tail(s.key, s.at, x)
	if e != api.OK || len(b) != api.TailBytes {
		t.Fatalf("Tail at %v of %v: %x %v", s, x, b, e)
	}
	return b
}

func wantOpen(t *testing.T, s spot, b []byte, x api.Tag, e api.Errno) {
	t.Helper()
	if got, f := seal.Open(s.key, s.at, b); got != x || f != e {
		t.Errorf("Open at %v of %x: %v %v, want %v %v", s, b, got, f, x, e)
	}
}

func wantLook(t *testing.T, s spot, x api.Tag, h, l []byte, is api.Spoilt) {
	t.Helper()
	if got, e := seal.Look(s.key, s.at, x, h, l); got != is || e != api.OK {
		t.Errorf("Look at %v of %v, %x, %x: %v %v, want %v", s, x, h, l, got, e, is)
	}
}

// P6.1, P6.2, the examples
func TestExamples(t *testing.T) {
	s, x := spot{7, 256}, api.Tag{Class: 1, Size: 20, Nonce: 5}
	h, l := head(t, s, x), tail(t, s, x)
	wantOpen(t, s, h, x, api.OK)
	wantOpen(t, spot{7, 257}, h, api.Tag{}, api.ErrSeal)
	wantOpen(t, s, h[:15], api.Tag{}, api.ErrArg)
	if b, e := seal.Head(7, 0, api.Tag{Class: 8}); b != nil || e != api.ErrArg {
		t.Errorf("Head of class 8: %x %v", b, e)
	}
	l[3]++
	wantLook(t, s, x, h, l, api.SpoiltTail)
}

// P6.1, by bytes worked out apart from the program
func TestHeadAndTailOfKnownTags(t *testing.T) {
	for _, c := range []struct {
		key        uint64
		at         uint32
		x          api.Tag
		head, tail string
	}{
		{7, 256, api.Tag{Class: 1, Size: 20, Nonce: 5}, "95c28a4cbbc3367f0ec406ae2d8eec53", "c6558d1827758cd18c48bdb78de6f3a3"},
		{0, 0, api.Tag{}, "06247831f63cb748a844524680f3b095", "06247831f63cb748a844524680f3b095"},
		{7, 256, api.Tag{}, "713f48c578d685694d8d053ac1f1585d", "44129a52b14fc8a855a7af68dba34102"},
		{7, 257, api.Tag{Class: 1, Size: 20, Nonce: 5}, "be1cab192f649020e0c5fbfce6c233c6", "8c0aa8029da758bf8eb2fbea7e6a3cce"},
		{256, 7, api.Tag{Class: 1, Size: 20, Nonce: 5}, "c6558d1827758cd18c48bdb78de6f3a3", "95c28a4cbbc3367f0ec406ae2d8eec53"},
		{top, 4294967295, api.Tag{Class: 7, Size: 65535, Nonce: 4294967295}, "e8e7a5e5be4f54917d1cdc97ff571845", "3a942f23f9ae319c83c34d73009e0cf1"},
		{1 << 63, 1 << 31, api.Tag{Class: 7, Size: 256, Nonce: 1 << 31}, "91e99f7ff436a7461ad20b08b446d738", "e78f22afebcc8a41e00c0e3ee68787a3"},
		{0x0123456789abcdef, 1048896, api.Tag{Class: 3, Size: 100, Nonce: 0xdeadbeef}, "3e3fd551e90d6e2577b68f485b0769d2", "a25e5f544ed2a7483170663255eeda80"},
		{1 << 32, 1, api.Tag{Size: 65535}, "8b36f1ccc1d1558facff57eaffe2052b", "579d438882a08f77d22c627367822f1c"},
		{1, 4096, api.Tag{Class: 4, Nonce: 4294967295}, "4f13d93a7056d19719960b8fa488cad7", "575e730df648deaa68b97d4706d98e5e"},
		{0xdeadbeefcafebabe, 0xffffff00, api.Tag{Class: 6, Size: 1, Nonce: 1}, "b3c62589a902a511e33b65d9a49f9f00", "ee30c3cfb4110d4903cf5a6f23763910"},
		{1<<32 - 1, 1<<32 - 1, api.Tag{Class: 2, Size: 32768, Nonce: 65536}, "f84f2d2f3aad9cb2848600f798ede339", "f84f2d2f3aad9cb2848600f798ede339"},
	} {
		s := spot{c.key, c.at}
		if b := head(t, s, c.x); hex.EncodeToString(b) != c.head {
			t.Errorf("Head at %v of %v: %x, want %s", s, c.x, b, c.head)
		}
		if b := tail(t, s, c.x); hex.EncodeToString(b) != c.tail {
			t.Errorf("Tail at %v of %v: %x, want %s", s, c.x, b, c.tail)
		}
		b, _ := hex.DecodeString(c.head)
		wantOpen(t, s, b, c.x, api.OK)
	}
}

// P6.1, P6.3
func TestHeadTailOpenAndLook(t *testing.T) {
	for _, s := range spots() {
		for _, x := range tags() {
			if e := seal.Check(x); e != api.OK {
				t.Fatalf("Check(%v): %v", x, e)
			}
			h, l := head(t, s, x), tail(t, s, x)
			if !bytes.Equal(h, wantHead(s, x)) || !bytes.Equal(l, wantTail(s, x)) {
				t.Fatalf("Head, Tail at %v of %v: %x %x, want %x %x", s, x, h, l, wantHead(s, x), wantTail(s, x))
			}
			wantOpen(t, s, h, x, api.OK)
			wantLook(t, s, x, h, l, api.SpoiltNone)
		}
	}
}

// P6.1: each size that there is
func TestEachSize(t *testing.T) {
	s := spot{0x0123456789abcdef, 1048896}
	for size := range 65536 {
		x := api.Tag{Class: size % api.Classes, Size: size, Nonce: uint32(size) * 2654435769}
		if e := seal.Check(x); e != api.OK {
			t.Fatalf("Check(%v): %v", x, e)
		}
		wantOpen(t, s, head(t, s, x), x, api.OK)
	}
}

// P6.1, P6.2: a tag that may not be is refused, ahead of bytes that no head or tail has
func TestTagsThatMayNotBe(t *testing.T) {
	for _, x := range noTags() {
		if e := seal.Check(x); e != api.ErrArg {
			t.Errorf("Check(%v): %v", x, e)
		}
		for _, s := range spots() {
			if b, e := seal.Head(s.key, s.at, x); b != nil || e != api.ErrArg {
				t.Fatalf("Head at %v of %v: %x %v", s, x, b, e)
			}
			if b, e := seal.Tail(s.key, s.at, x); b != nil || e != api.ErrArg {
				t.Fatalf("Tail at %v of %v: %x %v", s, x, b, e)
			}
			for _, b := range [][]byte{nil, {}, make([]byte, 15), wantHead(s, x), wantHead(s, api.Tag{})} {
				if is, e := seal.Look(s.key, s.at, x, b, b); is != 0 || e != api.ErrArg {
					t.Fatalf("Look at %v of %v, %x: %v %v", s, x, b, is, e)
				}
			}
		}
	}
}

// P6.1: bytes as many as no head has
func TestOpenOfOtherNumbersOfBytes(t *testing.T) {
	for _, s := range spots() {
		h := append(head(t, s, api.Tag{Class: 1, Size: 20, Nonce: 5}), make([]byte, 300)...)
		wantOpen(t, s, nil, api.Tag{}, api.ErrArg)
		for many := range len(h) {
			if many != api.HeadBytes {
				wantOpen(t, s, h[:many], api.Tag{}, api.ErrArg)
			}
		}
	}
	wantOpen(t, spot{}, make([]byte, 1<<16+16), api.Tag{}, api.ErrArg)
}

// P6.1: of as many bytes, those that are no tag's head there
func TestOpenOfNoHead(t *testing.T) {
	x := api.Tag{Class: 1, Size: 20, Nonce: 5}
	for i, s := range spots() {
		h, l := head(t, s, x), tail(t, s, x)
		for k, other := range spots() {
			if k != i {
				wantOpen(t, other, h, api.Tag{}, api.ErrSeal)
			}
		}
		if uint64(s.at) != s.key {
			wantOpen(t, s, l, api.Tag{}, api.ErrSeal)
		}
		wantOpen(t, s, slices.Concat(h[8:], h[:8]), api.Tag{}, api.ErrSeal)
		wantOpen(t, s, slices.Concat(h[:8], h[:8]), api.Tag{}, api.ErrSeal)
		wantOpen(t, s, slices.Concat(h[:8], head(t, s, api.Tag{Class: 1, Size: 20, Nonce: 6})[8:]), api.Tag{}, api.ErrSeal)
		wantOpen(t, s, make([]byte, 16), api.Tag{}, api.ErrSeal)
		wantOpen(t, s, bytes.Repeat([]byte{255}, 16), api.Tag{}, api.ErrSeal)
	}
}

// P6.1: bytes made with the key, but of words that no tag has
func TestOpenOfWordsOfNoTag(t *testing.T) {
	for _, s := range spots() {
		key := mix.Fold(s.key, uint64(s.at))
		for bit := 51; bit < 64; bit++ {
			w := wantWord(api.Tag{Class: 1, Size: 20, Nonce: 5}) + 1<<bit
			wantOpen(t, s, laid(key, w, top-w), api.Tag{}, api.ErrSeal)
		}
		for _, w := range []uint64{8 << 48, 9<<48 + 20<<32 + 5, 256 << 48, 65535 << 48, top} {
			wantOpen(t, s, laid(key, w, top-w), api.Tag{}, api.ErrSeal)
		}
		for bit := range 64 {
			w := wantWord(api.Tag{Class: 1, Size: 20, Nonce: 5})
			wantOpen(t, s, laid(key, w, (top-w)^1<<bit), api.Tag{}, api.ErrSeal)
		}
		wantOpen(t, s, laid(key, 5, 5), api.Tag{}, api.ErrSeal)
		wantOpen(t, s, laid(key, 5, top-4), api.Tag{}, api.ErrSeal)
		wantOpen(t, s, laid(key, 8<<48-1, top-(8<<48-1)), api.Tag{Class: 7, Size: 65535, Nonce: math.MaxUint32}, api.OK)
	}
}

// P6.1, P6.2, P6.3: each other byte at each place is told
func TestEachOtherByteIsTold(t *testing.T) {
	s, x := spot{7, 256}, api.Tag{Class: 1, Size: 20, Nonce: 5}
	h, l := head(t, s, x), tail(t, s, x)
	for at := range 16 {
		for by := 1; by < 256; by++ {
			a, b := bytes.Clone(h), bytes.Clone(l)
			a[at] += byte(by)
			b[at] += byte(by)
			wantOpen(t, s, a, api.Tag{}, api.ErrSeal)
			wantLook(t, s, x, a, l, api.SpoiltHead)
			wantLook(t, s, x, h, b, api.SpoiltTail)
			wantLook(t, s, x, a, b, api.SpoiltHead)
		}
	}
}

// P6.2: bytes too few, too many are not the tag's
func TestLookAtOtherNumbersOfBytes(t *testing.T) {
	x := api.Tag{Class: 1, Size: 20, Nonce: 5}
	for _, s := range spots() {
		h, l := append(head(t, s, x), 0, 0, 0, 0), append(tail(t, s, x), 0, 0, 0, 0)
		wantLook(t, s, x, nil, nil, api.SpoiltHead)
		wantLook(t, s, x, nil, l[:16], api.SpoiltHead)
		wantLook(t, s, x, h[:16], nil, api.SpoiltTail)
		for many := range 21 {
			if many != 16 {
				wantLook(t, s, x, h[:many], l[:16], api.SpoiltHead)
				wantLook(t, s, x, h[:16], l[:many], api.SpoiltTail)
				wantLook(t, s, x, h[:many], l[:many], api.SpoiltHead)
			}
		}
		wantLook(t, s, x, slices.Concat(h[:16], h[:16]), l[:16], api.SpoiltHead)
		wantLook(t, s, x, h[:16], slices.Concat(l[:16], l[:16]), api.SpoiltTail)
		wantLook(t, s, x, h[:16], l[:16], api.SpoiltNone)
	}
}

// P6.2: what other tags, keys and addresses have is spoilt
func TestLookAtOthers(t *testing.T) {
	x := api.Tag{Class: 1, Size: 20, Nonce: 5}
	for i, s := range spots() {
		h, l := head(t, s, x), tail(t, s, x)
		if uint64(s.at) != s.key {
			wantLook(t, s, x, l, h, api.SpoiltHead)
			wantLook(t, s, x, h, h, api.SpoiltTail)
			wantLook(t, s, x, l, l, api.SpoiltHead)
		}
		for _, y := range []api.Tag{{Class: 2, Size: 20, Nonce: 5}, {Class: 1, Size: 21, Nonce: 5}, {Class: 1, Size: 20, Nonce: 6}, {}} {
			wantLook(t, s, y, h, l, api.SpoiltHead)
			wantLook(t, s, y, head(t, s, y), l, api.SpoiltTail)
			wantLook(t, s, y, h, tail(t, s, y), api.SpoiltHead)
		}
		for k, other := range spots() {
			if k != i {
				wantLook(t, other, x, h, l, api.SpoiltHead)
				wantLook(t, other, x, head(t, other, x), l, api.SpoiltTail)
			}
		}
	}
}

// P6.3
func TestUnlikeTagsHaveUnlikeHeadsAndTails(t *testing.T) {
	for _, s := range spots() {
		heads, tails := map[string]api.Tag{}, map[string]api.Tag{}
		for _, x := range tags() {
			h, l := string(head(t, s, x)), string(tail(t, s, x))
			if y, is := heads[h]; is {
				t.Fatalf("Head at %v of %v and of %v: %x", s, x, y, h)
			}
			if y, is := tails[l]; is {
				t.Fatalf("Tail at %v of %v and of %v: %x", s, x, y, l)
			}
			heads[h], tails[l] = x, x
		}
	}
}

// P6.1: a head is a tail of the key and the address the other way round
func TestHeadsAreTailsTheOtherWayRound(t *testing.T) {
	for _, s := range spots() {
		if s.key > math.MaxUint32 {
			continue
		}
		for _, x := range tags() {
			if h, l := head(t, s, x), tail(t, spot{uint64(s.at), uint32(s.key)}, x); !bytes.Equal(h, l) {
				t.Fatalf("Head at %v of %v: %x, the other way round %x", s, x, h, l)
			}
		}
	}
}

// Rules: what is handed in is not changed, spare room behind it included
func TestNothingIsChanged(t *testing.T) {
	s, x := spot{7, 256}, api.Tag{Class: 1, Size: 20, Nonce: 5}
	h, l := append(head(t, s, x), "abcdefgh"...), append(tail(t, s, x), "stuvwxyz"...)
	a, b := bytes.Clone(h), bytes.Clone(l)
	for many := range len(h) + 1 {
		seal.Open(s.key, s.at, h[:many])
		seal.Look(s.key, s.at, x, h[:many], l[:16])
		seal.Look(s.key, s.at, x, h[:16], l[:many])
	}
	if !bytes.Equal(h, a) || !bytes.Equal(l, b) {
		t.Errorf("changed: %x %x", h, l)
	}
}

// Rules: an answer is new memory, and hangs on the arguments alone
func TestAnswersAreNewMemory(t *testing.T) {
	s, x := spot{7, 256}, api.Tag{Class: 1, Size: 20, Nonce: 5}
	for n := range 3 {
		for _, b := range [][]byte{head(t, s, x), tail(t, s, x)} {
			for i := range b {
				b[i] = byte(n)
			}
			_ = append(b, "more"...)
		}
		seal.Head(9, 9, api.Tag{Class: 8})
		if h, l := head(t, s, x), tail(t, s, x); !bytes.Equal(h, wantHead(s, x)) || !bytes.Equal(l, wantTail(s, x)) {
			t.Fatalf("behind %d others: %x %x", n, h, l)
		}
	}
}
