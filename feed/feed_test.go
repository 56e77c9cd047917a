package feed_test

import (
	"bytes"
	"iter"
	"math"
	"math/rand"
	"slices"
	"testing"

	"pinfold/api"
	"pinfold/feed"
)

// noPicks are those among how many there is no pick: beside both ends, and those that a narrower kind would cut to one that there is.
var noPicks = []int{0, 257, 258, 259, 511, 512, 65535, 65536, 65539, 1<<31 - 1, 1 << 31, 1<<32 - 1, 1 << 32, 1<<32 + 1, 1<<32 + 256, 1 << 62, math.MaxInt - 1, math.MaxInt, -1, -2, -3, -255, -256, -257, -65533, -65536, -1 << 31, 3 - 1<<32, -1 << 32, math.MinInt, math.MinInt + 1, math.MinInt + 3}

// noTakes are numbers of bytes that can't be taken.
var noTakes = []int{-1, -2, -3, -4, -255, -256, -65536, 1 - 1<<16, -1 << 31, 2 - 1<<32, -1 << 32, math.MinInt, math.MinInt + 1, math.MinInt + 2}

// muchTakes are numbers of bytes greater than all that are left.
var muchTakes = []int{301, 65536, 65537, 1<<31 - 1, 1 << 31, 1<<32 - 1, 1 << 32, 1<<32 + 1, 1 << 62, math.MaxInt - 1, math.MaxInt}

// lengths are numbers of bytes: none, few, those beside powers of 2, some more.
var lengths = []int{0, 1, 2, 3, 4, 5, 6, 7, 8, 9, 15, 16, 17, 255, 256, 257, 300}

// outside are places that there are not, of so many bytes.
func outside(many int) []int {
	return []int{many + 1, many + 2, many + 255, many + 256, many + 65536, 1 << 31, 1 << 32, 1<<32 + many/2, 1<<62 + 1, math.MaxInt - 1, math.MaxInt, -1, -2, -many - 1, -256, -65536, -1 << 31, many/2 - 1<<32, -1 << 32, math.MinInt, math.MinInt + 1, math.MinInt + many/2}
}

// some are so many bytes, of all kinds.
func some(many int) []byte {
	l := make([]byte, many)
	for i := range l {
		l[i] = byte(i*89 + i/256 + 200)
	}
	return l
}

// facts are all bytes of a feed, and how many of them were taken.
type facts struct {
	all []byte
	at  int
}

func fresh(l ...byte) facts { return facts{all: l} }

// next takes one byte where there is one, 0 where there is none.
func (f *facts) next() int {
	if f.at == len(f.all) {
		return 0
	}
	f.at++
	return int(f.all[f.at-1])
}

// pick tells what Pick answers, and takes what it takes.
func (f *facts) pick(n int) (int, api.Errno) {
	if n < 1 || n > 256 {
		return 0, api.ErrArg
	}
	return f.next() % n, api.OK
}

// draw tells what Draw answers, and takes what it takes.
func (f *facts) draw() uint32 {
	sum := 0
	for _, by := range []int{1, 256, 65536, 16777216} {
		sum += by * f.next()
	}
	return uint32(sum)
}

// take tells what Take answers, and takes what it takes.
func (f *facts) take(many int) ([]byte, api.Errno) {
	if many < 0 {
		return nil, api.ErrArg
	}
	var l []byte
	for len(l) < many && f.at < len(f.all) {
		l = append(l, byte(f.next()))
	}
	return l, api.OK
}

// seek tells what Seek answers, and goes there.
func (f *facts) seek(at int) (int, api.Errno) {
	if at < 0 || at > len(f.all) {
		return 0, api.ErrRange
	}
	was := f.at
	f.at = at
	return was, api.OK
}

// picks tells what Picks goes over, and takes what it takes.
func (f *facts) picks(n int) []int {
	if n < 1 || n > 256 {
		return nil
	}
	var l []int
	for f.at < len(f.all) {
		l = append(l, f.next()%n)
	}
	return l
}

// made is a feed of which those facts hold.
func made(t *testing.T, f facts) *feed.Feed {
	t.Helper()
	o := feed.New(f.all)
	if o == nil {
		t.Fatalf("New(%x): nil", f.all)
	}
	wantSeek(t, o, f.at, 0, api.OK)
	return o
}

func wantPick(t *testing.T, o *feed.Feed, n, want int, e api.Errno) {
	t.Helper()
	if p, g := o.Pick(n); p != want || g != e {
		t.Fatalf("Pick(%d): %d %v, want %d %v", n, p, g, want, e)
	}
}

func wantDraw(t *testing.T, o *feed.Feed, want uint32, e api.Errno) {
	t.Helper()
	if d, g := o.Draw(); d != want || g != e {
		t.Fatalf("Draw: %d %v, want %d %v", d, g, want, e)
	}
}

func wantTake(t *testing.T, o *feed.Feed, many int, want []byte, e api.Errno) {
	t.Helper()
	if l, g := o.Take(many); !bytes.Equal(l, want) || g != e {
		t.Fatalf("Take(%d): %x %v, want %x %v", many, l, g, want, e)
	}
}

func wantSeek(t *testing.T, o *feed.Feed, at, want int, e api.Errno) {
	t.Helper()
	if was, g := o.Seek(at); was != want || g != e {
		t.Fatalf("Seek(%d): %d %v, want %d %v", at, was, g, want, e)
	}
}

func wantPlace(t *testing.T, o *feed.Feed, at, left int) {
	t.Helper()
	if o.At() != at || o.Left() != left {
		t.Fatalf("At %d, Left %d, want %d and %d", o.At(), o.Left(), at, left)
	}
}

func told(all iter.Seq[int]) []int {
	var l []int
	for p := range all {
		l = append(l, p)
	}
	return l
}

func wantPicks(t *testing.T, all iter.Seq[int], want ...int) {
	t.Helper()
	if all == nil {
		t.Fatal("no iterator")
	}
	if got := told(all); !slices.Equal(got, want) {
		t.Fatalf("Picks: %v, want %v", got, want)
	}
}

// check holds all that a feed tells against facts, and leaves it where it is.
func check(t *testing.T, o *feed.Feed, f facts) {
	t.Helper()
	wantPlace(t, o, f.at, len(f.all)-f.at)
	if !feed.Same(o, feed.New(f.all[f.at:])) {
		t.Fatalf("not the same as of %x from %d on", f.all, f.at)
	}
	wantSeek(t, o, 0, f.at, api.OK)
	wantTake(t, o, len(f.all)+1, f.all, api.OK)
	wantSeek(t, o, f.at, len(f.all), api.OK)
	wantPlace(t, o, f.at, len(f.all)-f.at)
}

// P13.1, P13.2, the examples
func TestExamples(t *testing.T) {
	o := feed.New([]byte{7, 1, 2, 0, 0, 255})
	wantPick(t, o, 3, 1, api.OK)
	wantDraw(t, o, 513, api.OK)
	wantPick(t, o, 256, 255, api.OK)
	wantPick(t, o, 5, 0, api.OK)
	wantPlace(t, o, 6, 0)
	wantSeek(t, o, 4, 6, api.OK)
	wantTake(t, o, 9, []byte{0, 255}, api.OK)
	wantPick(t, o, 0, 0, api.ErrArg)
	wantSeek(t, o, 7, 0, api.ErrRange)
	wantPlace(t, o, 6, 0)
}

// P13.1: at its beginning, with all bytes
func TestNew(t *testing.T) {
	for _, many := range lengths {
		l := some(many)
		check(t, feed.New(l), fresh(l...))
	}
}

// P13.1; Rules: what is handed in is not changed, spare room behind it included, and not kept
func TestNewKeepsNothingOfAnother(t *testing.T) {
	room := []byte{1, 2, 3, 9, 9, 9, 9}
	o := feed.New(room[:3])
	wantTake(t, o, 9, []byte{1, 2, 3}, api.OK)
	wantDraw(t, o, 0, api.OK)
	wantPick(t, o, 256, 0, api.OK)
	if !bytes.Equal(room, []byte{1, 2, 3, 9, 9, 9, 9}) {
		t.Errorf("what was handed in is %x", room)
	}
	for i := range room {
		room[i] = 77
	}
	check(t, o, facts{[]byte{1, 2, 3}, 3})
}

// P13.1
func TestNewOnesAreApart(t *testing.T) {
	l := []byte{1, 2, 3, 4, 5}
	a, b := feed.New(l), feed.New(l)
	wantPick(t, a, 256, 1, api.OK)
	check(t, a, facts{l, 1})
	check(t, b, facts{l, 0})
	wantDraw(t, b, 0x04030201, api.OK)
	check(t, a, facts{l, 1})
	check(t, b, facts{l, 4})
}

// P13.1: each byte among each number, and behind the last one
func TestPick(t *testing.T) {
	all := make([]byte, 256)
	for i := range all {
		all[i] = byte(i)
	}
	for n := 1; n <= 256; n++ {
		o := feed.New(all)
		for i := range all {
			wantPick(t, o, n, i%n, api.OK)
			wantPlace(t, o, i+1, 255-i)
		}
		for range 3 {
			wantPick(t, o, n, 0, api.OK)
			wantPlace(t, o, 256, 0)
		}
	}
}

// P13.1: among none, or more than bytes tell apart; nothing is taken
func TestPicksThatMayNotBe(t *testing.T) {
	for _, f := range []facts{fresh(), fresh(5), {[]byte{5}, 1}, {[]byte{5, 6, 7}, 1}} {
		o := made(t, f)
		for _, n := range noPicks {
			wantPick(t, o, n, 0, api.ErrArg)
			wantPicks(t, o.Picks(n))
			wantPlace(t, o, f.at, len(f.all)-f.at)
		}
		check(t, o, f)
	}
}

// P13.1: the lowest ahead; of fewer than 4 bytes those that are left
func TestDraw(t *testing.T) {
	for _, x := range []struct {
		l    []byte
		want uint32
	}{
		{nil, 0}, {[]byte{}, 0}, {[]byte{0}, 0}, {[]byte{1}, 1}, {[]byte{128}, 128}, {[]byte{255}, 255},
		{[]byte{0, 1}, 256}, {[]byte{1, 2}, 513}, {[]byte{255, 255}, 65535}, {[]byte{0, 128}, 32768},
		{[]byte{0, 0, 1}, 65536}, {[]byte{1, 2, 3}, 0x030201}, {[]byte{255, 255, 255}, 1<<24 - 1},
		{[]byte{0, 0, 0, 1}, 1 << 24}, {[]byte{0, 0, 0, 128}, 1 << 31}, {[]byte{1, 2, 3, 4}, 0x04030201}, {[]byte{255, 255, 255, 255}, math.MaxUint32},
		{[]byte{1, 0, 0, 128}, 1<<31 + 1}, {[]byte{255, 255, 255, 127}, 1<<31 - 1},
		{[]byte{1, 2, 3, 4, 5}, 0x04030201}, {[]byte{0, 0, 0, 0, 255}, 0},
	} {
		o := feed.New(x.l)
		wantDraw(t, o, x.want, api.OK)
		at := min(4, len(x.l))
		check(t, o, facts{x.l, at})
	}
	for _, many := range lengths {
		f := fresh(some(many)...)
		o := made(t, f)
		for range many/4 + 3 {
			wantDraw(t, o, f.draw(), api.OK)
			wantPlace(t, o, f.at, many-f.at)
		}
		wantDraw(t, o, 0, api.OK)
		wantPlace(t, o, many, 0)
	}
}

// P13.1: from each place, so many, or as many as are left
func TestTake(t *testing.T) {
	for _, many := range []int{0, 1, 2, 5, 9} {
		l := some(many)
		for at := range many + 1 {
			for wanted := range many + 4 {
				o := made(t, facts{l, at})
				end := min(at+wanted, many)
				wantTake(t, o, wanted, l[at:end], api.OK)
				check(t, o, facts{l, end})
			}
			for _, wanted := range muchTakes {
				o := made(t, facts{l, at})
				wantTake(t, o, wanted, l[at:], api.OK)
				check(t, o, facts{l, many})
				wantTake(t, o, wanted, nil, api.OK)
				check(t, o, facts{l, many})
			}
			o := made(t, facts{l, at})
			for _, wanted := range noTakes {
				wantTake(t, o, wanted, nil, api.ErrArg)
			}
			check(t, o, facts{l, at})
		}
	}
}

// P13.1; Rules: an answer is new memory
func TestTakenBytesAreApart(t *testing.T) {
	l := []byte{1, 2, 3, 4, 5}
	o := feed.New(l)
	a, _ := o.Take(2)
	_ = append(a, 77, 77)
	a[0], a[1] = 78, 78
	check(t, o, facts{l, 2})
	b, _ := o.Take(9)
	c := o.Copy()
	wantSeek(t, o, 0, 5, api.OK)
	again, _ := o.Take(2)
	again[0] = 79
	if !bytes.Equal(a, []byte{78, 78}) || !bytes.Equal(b, []byte{3, 4, 5}) {
		t.Errorf("%x and %x share with others", a, b)
	}
	b[0], b[1], b[2] = 80, 80, 80
	check(t, o, facts{l, 2})
	check(t, c, facts{l, 5})
}

// P13.1: from each place to each, that behind the last byte too; where it was is told
func TestSeek(t *testing.T) {
	for _, many := range []int{0, 1, 2, 5, 17} {
		l := some(many)
		for from := range many + 1 {
			for to := range many + 1 {
				o := made(t, facts{l, from})
				wantSeek(t, o, to, from, api.OK)
				check(t, o, facts{l, to})
			}
			o := made(t, facts{l, from})
			for _, to := range outside(many) {
				wantSeek(t, o, to, 0, api.ErrRange)
				wantPlace(t, o, from, many-from)
			}
			check(t, o, facts{l, from})
		}
	}
}

// P13.1, P13.2; Rules: a feed that is not there; a zero object is as a nil one
func TestNoFeed(t *testing.T) {
	none := []*feed.Feed{nil, new(feed.Feed), {}, (*feed.Feed)(nil).Copy(), new(feed.Feed).Copy()}
	for i, o := range none {
		for _, n := range append(noPicks, 1, 3, 256) {
			wantPick(t, o, n, 0, api.ErrNil)
			wantTake(t, o, n, nil, api.ErrNil)
			wantSeek(t, o, n, 0, api.ErrNil)
			wantPicks(t, o.Picks(n))
		}
		wantDraw(t, o, 0, api.ErrNil)
		wantPlace(t, o, 0, 0)
		if o.Copy() != nil {
			t.Errorf("%d: Copy is there", i)
		}
		for k, p := range none {
			if !feed.Same(o, p) {
				t.Errorf("Same(%d, %d): false", i, k)
			}
		}
		for _, p := range []*feed.Feed{feed.New(nil), feed.New([]byte{}), feed.New([]byte{0}), made(t, facts{[]byte{0}, 1})} {
			if feed.Same(o, p) || feed.Same(p, o) {
				t.Errorf("%d is the same as one with %d left", i, p.Left())
			}
		}
	}
}

// P13.1, P13.2; Rules: one of no bytes is there, nil and empty mean the same
func TestFeedOfNone(t *testing.T) {
	for i, o := range []*feed.Feed{feed.New(nil), feed.New([]byte{}), feed.New([]byte{7}[:0]), feed.New(nil).Copy(), feed.New(nil).Copy().Copy()} {
		for n := 1; n <= 256; n++ {
			wantPick(t, o, n, 0, api.OK)
			wantPicks(t, o.Picks(n))
		}
		wantDraw(t, o, 0, api.OK)
		wantTake(t, o, 0, nil, api.OK)
		wantTake(t, o, math.MaxInt, nil, api.OK)
		wantTake(t, o, -1, nil, api.ErrArg)
		wantPick(t, o, 0, 0, api.ErrArg)
		wantSeek(t, o, 0, 0, api.OK)
		wantSeek(t, o, 1, 0, api.ErrRange)
		wantSeek(t, o, -1, 0, api.ErrRange)
		check(t, o, fresh())
		if o.Copy() == nil || !feed.Same(o, feed.New(nil)) || !feed.Same(feed.New([]byte{}), o) || feed.Same(o, nil) || feed.Same(nil, o) || feed.Same(o, feed.New([]byte{0})) {
			t.Errorf("%d: of no bytes, but not as such", i)
		}
	}
}

// P13.2: one for each byte that is left, from each place
func TestPicks(t *testing.T) {
	for _, many := range lengths {
		for _, n := range []int{1, 2, 3, 7, 16, 255, 256} {
			for _, at := range []int{0, 1, many / 2, many - 1, many} {
				if at < 0 || at > many {
					continue
				}
				f := facts{some(many), at}
				o := made(t, f)
				wantPicks(t, o.Picks(n), f.picks(n)...)
				check(t, o, f)
			}
		}
	}
}

// P13.2: what it did not tell is not taken
func TestPicksLeftAtAnyTime(t *testing.T) {
	l := []byte{9, 8, 7, 6, 5}
	for at := range 6 {
		for many := 1; many <= 5-at; many++ {
			f := facts{l, at}
			o := made(t, f)
			var got []int
			o.Picks(4)(func(p int) bool {
				if len(got) == many {
					t.Fatalf("told on after it was left behind %d", many)
				}
				got = append(got, p)
				return len(got) < many
			})
			var want []int
			for range many {
				p, _ := f.pick(4)
				want = append(want, p)
			}
			if !slices.Equal(got, want) {
				t.Errorf("from %d, left behind %d: %v, want %v", at, many, got, want)
			}
			check(t, o, f)
		}
	}
}

// P13.2: it goes on where it was left, with what is left
func TestPicksGoneOverAgain(t *testing.T) {
	l := []byte{9, 8, 7, 6, 5}
	o := feed.New(l)
	all := o.Picks(256)
	for p := range all {
		if p == 8 {
			break
		}
	}
	check(t, o, facts{l, 2})
	wantPicks(t, all, 7, 6, 5)
	wantPicks(t, all)
	check(t, o, facts{l, 5})
	wantSeek(t, o, 3, 5, api.OK)
	wantPicks(t, all, 6, 5)
}

// P13.2: nothing is taken till it is gone over, and then what is left by then
func TestPicksAreTakenAsTheyAreGoneOver(t *testing.T) {
	l := []byte{9, 8, 7, 6, 5, 4, 3}
	o := feed.New(l)
	all := o.Picks(256)
	check(t, o, facts{l, 0})
	wantPick(t, o, 256, 9, api.OK)
	other := o.Copy()
	at := 1
	for p := range all {
		if p != int(l[at]) {
			t.Fatalf("told %d at %d", p, at)
		}
		at++
		check(t, o, facts{l, at})
	}
	if at != len(l) {
		t.Errorf("told till %d", at)
	}
	check(t, other, facts{l, 1})
	wantPicks(t, all)
	wantPicks(t, other.Picks(256), 8, 7, 6, 5, 4, 3)
}

// P13.2: who goes over them may take, send back, and go over others meanwhile
func TestPicksWhileMoreIsTaken(t *testing.T) {
	l := []byte{9, 8, 7, 6, 5, 4, 3}
	o := feed.New(l)
	var got []int
	for p := range o.Picks(256) {
		got = append(got, p)
		o.Take(1)
	}
	if !slices.Equal(got, []int{9, 7, 5, 3}) {
		t.Errorf("one of two: %v", got)
	}
	check(t, o, facts{l, 7})

	got = nil
	wantSeek(t, o, 4, 7, api.OK)
	for p := range o.Picks(256) {
		got = append(got, p)
		if len(got) == 1 {
			wantSeek(t, o, 5, 5, api.OK)
		}
		if len(got) == 2 {
			wantSeek(t, o, 4, 6, api.OK)
		}
	}
	if !slices.Equal(got, []int{5, 4, 5, 4, 3}) {
		t.Errorf("sent back: %v", got)
	}

	got = nil
	wantSeek(t, o, 0, 7, api.OK)
	for p := range o.Picks(256) {
		got = append(got, p)
		for q := range o.Picks(3) {
			got = append(got, q)
			if q == 0 {
				break
			}
		}
	}
	if !slices.Equal(got, []int{9, 2, 1, 0, 5, 1, 0}) {
		t.Errorf("one within the other: %v", got)
	}
	check(t, o, facts{l, 7})
}

// P13.2: of what was taken too, and where it was
func TestCopyGoesOnApart(t *testing.T) {
	for _, many := range lengths {
		l := some(many)
		for _, at := range []int{0, many / 2, many} {
			f := facts{l, at}
			o := made(t, f)
			c := o.Copy()
			if c == nil || c == o || !feed.Same(o, c) || !feed.Same(c, o) {
				t.Fatalf("of %d at %d: Copy %v", many, at, c)
			}
			check(t, c, f)
			ours, theirs := f, f
			wantDraw(t, o, ours.draw(), api.OK)
			check(t, o, ours)
			check(t, c, theirs)
			p, _ := theirs.pick(100)
			wantPick(t, c, 100, p, api.OK)
			q, _ := theirs.take(2)
			wantTake(t, c, 2, q, api.OK)
			was, _ := ours.seek(many)
			wantSeek(t, o, many, was, api.OK)
			check(t, o, ours)
			check(t, c, theirs)
			check(t, c.Copy(), theirs)
		}
	}
}

// P13.2: what is left, whatever was taken ahead of it
func TestSame(t *testing.T) {
	kinds := []facts{
		fresh(), {[]byte{1}, 1}, {[]byte{1, 2, 3}, 3},
		fresh(0), {[]byte{9, 0}, 1}, {[]byte{9, 9, 9, 0}, 3},
		fresh(1), {[]byte{0, 1}, 1}, {[]byte{1, 1}, 1},
		fresh(0, 0), {[]byte{0, 0, 0}, 1}, fresh(0, 0, 0), fresh(0, 1), fresh(1, 0), {[]byte{0, 1, 0}, 1},
		fresh(255), fresh(1, 2, 3), fresh(1, 2, 4), fresh(1, 2, 3, 4), {[]byte{7, 1, 2, 3}, 1}, fresh(7, 1, 2, 3),
		fresh(some(300)...), {some(300), 1}, {some(300), 299}, fresh(some(299)...), {some(300), 300},
	}
	for _, f := range kinds {
		a := made(t, f)
		if !feed.Same(a, a) || !feed.Same(a, a.Copy()) {
			t.Errorf("%x at %d is not as itself", f.all, f.at)
		}
		for _, g := range kinds {
			b := made(t, g)
			if want := string(f.all[f.at:]) == string(g.all[g.at:]); feed.Same(a, b) != want {
				t.Errorf("Same(%x at %d, %x at %d): %v", f.all, f.at, g.all, g.at, !want)
			}
			wantPlace(t, b, g.at, len(g.all)-g.at)
		}
		wantPlace(t, a, f.at, len(f.all)-f.at)
	}
}

// P13.3: cut anywhere, what was taken is what is taken at once
func TestPartByPart(t *testing.T) {
	for _, many := range []int{1, 4, 9, 300} {
		l := some(many)
		whole, _ := feed.New(l).Take(many)
		for step := 1; step <= many+1; step++ {
			o := feed.New(l)
			var got []byte
			for o.Left() > 0 {
				part, _ := o.Take(step)
				got = append(got, part...)
				if o.At()+o.Left() != many || o.At() != len(got) {
					t.Fatalf("of %d: At %d, Left %d behind %d", many, o.At(), o.Left(), len(got))
				}
			}
			if !bytes.Equal(got, whole) {
				t.Fatalf("of %d, %d at a time: %x, want %x", many, step, got, whole)
			}
		}
		// By picks, and by draws, too.
		o := feed.New(l)
		for at, p := range slices.Collect(o.Picks(256)) {
			if p != int(whole[at]) {
				t.Fatalf("of %d: pick %d at %d", many, p, at)
			}
		}
		o, p := feed.New(l), feed.New(l)
		for o.Left() > 0 {
			part, _ := p.Take(4)
			want := fresh(part...)
			wantDraw(t, o, want.draw(), api.OK)
		}
	}
}

// P13.3: the same again, from wherever it is sent back
func TestSentBack(t *testing.T) {
	r := rand.New(rand.NewSource(13))
	for _, many := range lengths {
		o := feed.New(some(many))
		for range 30 {
			o.Seek(r.Intn(many + 1))
			was, turns := o.At(), r.Int63()
			first := answers(o, turns)
			end := o.At()
			wantSeek(t, o, was, end, api.OK)
			if again := answers(o, turns); !slices.Equal(first, again) || o.At() != end {
				t.Fatalf("of %d from %d: %v, then %v", many, was, first, again)
			}
		}
	}
}

// answers are those of some calls, the same of the same number.
func answers(o *feed.Feed, turns int64) []uint32 {
	r := rand.New(rand.NewSource(turns))
	var all []uint32
	for range r.Intn(9) {
		switch r.Intn(4) {
		case 0:
			p, _ := o.Pick(1 + r.Intn(256))
			all = append(all, uint32(p))
		case 1:
			d, _ := o.Draw()
			all = append(all, d)
		case 2:
			l, _ := o.Take(r.Intn(9))
			for _, b := range l {
				all = append(all, uint32(b))
			}
		case 3:
			many := r.Intn(5)
			for p := range o.Picks(1 + r.Intn(256)) {
				all = append(all, uint32(p))
				if many--; many <= 0 {
					break
				}
			}
		}
	}
	return all
}

// P13.1 to P13.3: calls in any order, held against facts
func TestCallsInAnyOrder(t *testing.T) {
	r := rand.New(rand.NewSource(31))
	for _, many := range lengths {
		f := fresh(some(many)...)
		o := made(t, f)
		for turn := range 3000 {
			switch r.Intn(8) {
			case 0, 1:
				n := r.Intn(260) - 1
				p, e := f.pick(n)
				wantPick(t, o, n, p, e)
			case 2:
				wantDraw(t, o, f.draw(), api.OK)
			case 3, 4:
				wanted := r.Intn(9) - 1
				l, e := f.take(wanted)
				wantTake(t, o, wanted, l, e)
			case 5:
				at := r.Intn(many+3) - 1
				was, e := f.seek(at)
				wantSeek(t, o, at, was, e)
			case 6:
				n, stop := r.Intn(258), r.Intn(6)
				for p := range o.Picks(n) {
					if want, e := f.pick(n); p != want || e != api.OK {
						t.Fatalf("Picks(%d): %d, want %d", n, p, want)
					}
					if stop--; stop <= 0 {
						break
					}
				}
				if stop > 0 && n >= 1 && n <= 256 && f.at < many {
					t.Fatalf("Picks(%d) ended at %d of %d", n, f.at, many)
				}
			case 7:
				c := o.Copy()
				o.Take(3)
				o = c
			}
			wantPlace(t, o, f.at, many-f.at)
			if turn%50 == 0 {
				check(t, o, f)
			}
		}
	}
}
