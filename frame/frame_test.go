package frame_test

import (
	"bytes"
	"iter"
	"maps"
	"math"
	"math/rand"
	"slices"
	"testing"

	"pinfold/api"
	"pinfold/frame"
)

// owners is how many owners there may be.
const owners = 64

// noOwners are those just beyond both ends, and those that a narrower kind would cut to one that there is.
var noOwners = []int{-1, -2, -63, -64, -65, -256, 64, 65, 127, 128, 255, 256, 257, 65536, 65537, 1 << 31, 1 << 32, 1<<32 + 1, math.MaxInt32, math.MaxInt, math.MinInt32, math.MinInt, math.MinInt + 1}

// below are numbers below 0, those among them that a narrower kind would cut to one that may be.
var below = []int{-1, -2, -3, -64, -255, -256, -65536, -16384, -1 << 31, 1 - 1<<32, -1 << 32, 3 - 1<<32, math.MinInt32, math.MinInt, math.MinInt + 1, math.MinInt + 3}

// beyond are frames that there are not, of many.
func beyond(many int) []int {
	return slices.Concat(below, []int{many, many + 1, many + 64, many + 256, many + 65536, api.MaxFrames, 1 << 31, 1 << 32, 1<<32 + many/2, math.MaxInt - 1, math.MaxInt})
}

func made(t *testing.T, many int) *frame.Pool {
	t.Helper()
	p, e := frame.New(many)
	if p == nil || e != api.OK {
		t.Fatalf("New(%d): %v %v", many, p, e)
	}
	return p
}

// held is a pool in which each owner has as many reserved as are told of it, all taken, one by one each.
func held(t *testing.T, many int, reserved map[int]int) *frame.Pool {
	t.Helper()
	p := made(t, many)
	for _, owner := range slices.Sorted(maps.Keys(reserved)) {
		wantReserve(t, p, owner, reserved[owner], api.OK)
		for range reserved[owner] {
			taken(t, p, owner)
		}
	}
	return p
}

func taken(t *testing.T, p *frame.Pool, owner int) int {
	t.Helper()
	x, e := p.Take(owner)
	if e != api.OK {
		t.Fatalf("Take(%d): %d %v", owner, x, e)
	}
	return x
}

func wantTake(t *testing.T, p *frame.Pool, owner, want int, e api.Errno) {
	t.Helper()
	if x, f := p.Take(owner); x != want || f != e {
		t.Fatalf("Take(%d): %d %v, want %d %v", owner, x, f, want, e)
	}
}

func wantReserve(t *testing.T, p *frame.Pool, owner, many int, e api.Errno) {
	t.Helper()
	if f := p.Reserve(owner, many); f != e {
		t.Fatalf("Reserve(%d, %d): %v, want %v", owner, many, f, e)
	}
}

func wantGive(t *testing.T, p *frame.Pool, x int, e api.Errno) {
	t.Helper()
	if f := p.Give(x); f != e {
		t.Fatalf("Give(%d): %v, want %v", x, f, e)
	}
}

func wantWrite(t *testing.T, p *frame.Pool, x, at int, b []byte, e api.Errno) {
	t.Helper()
	if f := p.Write(x, at, b); f != e {
		t.Fatalf("Write(%d, %d, %d bytes): %v, want %v", x, at, len(b), f, e)
	}
}

func wantRead(t *testing.T, p *frame.Pool, x, at, many int, want []byte, e api.Errno) {
	t.Helper()
	b, f := p.Read(x, at, many)
	if !bytes.Equal(b, want) || f != e {
		t.Fatalf("Read(%d, %d, %d): %x %v, want %x %v", x, at, many, b, f, want, e)
	}
}

// facts are what a pool is, by plain lists.
type facts struct {
	// owner is whose each frame is, -1 of a free one.
	owner    []int
	bytes    [][api.PageSize]byte
	reserved [owners]int
}

func factsOf(many int) *facts {
	f := &facts{owner: make([]int, many), bytes: make([][api.PageSize]byte, many)}
	for at := range f.owner {
		f.owner[at] = -1
	}
	return f
}

func (f *facts) copied() *facts {
	return &facts{slices.Clone(f.owner), slices.Clone(f.bytes), f.reserved}
}

func (f *facts) taken(owner int) int {
	n := 0
	for _, x := range f.owner {
		if x == owner {
			n++
		}
	}
	return n
}

func (f *facts) room() int {
	n := len(f.owner)
	for _, r := range f.reserved {
		n -= r
	}
	return n
}

func (f *facts) reserve(owner, many int) api.Errno {
	switch {
	case owner < 0 || owner >= owners || many < 0:
		return api.ErrArg
	case many < f.taken(owner):
		return api.ErrHeld
	case many-f.reserved[owner] > f.room():
		return api.ErrFrames
	}
	f.reserved[owner] = many
	return api.OK
}

func (f *facts) take(owner int) (int, api.Errno) {
	switch {
	case owner < 0 || owner >= owners:
		return 0, api.ErrArg
	case f.taken(owner) == f.reserved[owner]:
		return 0, api.ErrLeft
	}
	at := slices.Index(f.owner, -1)
	f.owner[at], f.bytes[at] = owner, [api.PageSize]byte{}
	return at, api.OK
}

func (f *facts) such(x int) api.Errno {
	switch {
	case x < 0 || x >= len(f.owner):
		return api.ErrRange
	case f.owner[x] < 0:
		return api.ErrNone
	}
	return api.OK
}

func (f *facts) give(x int) api.Errno {
	e := f.such(x)
	if e == api.OK {
		f.owner[x] = -1
	}
	return e
}

func (f *facts) reach(x, at, many int) ([]byte, api.Errno) {
	e := f.such(x)
	if e == api.ErrRange || at < 0 || many < 0 || at > api.PageSize || many > api.PageSize || at+many > api.PageSize {
		return nil, api.ErrRange
	}
	if e != api.OK {
		return nil, e
	}
	return f.bytes[x][at : at+many], api.OK
}

// pairs are what an iterator of frames and owners tells.
func pairs(all iter.Seq2[int, int]) [][2]int {
	var l [][2]int
	for x, owner := range all {
		l = append(l, [2]int{x, owner})
	}
	return l
}

func (f *facts) all() [][2]int {
	var l [][2]int
	for x, owner := range f.owner {
		if owner >= 0 {
			l = append(l, [2]int{x, owner})
		}
	}
	return l
}

// check holds all that a pool tells against the facts.
func check(t *testing.T, p *frame.Pool, f *facts) {
	t.Helper()
	for owner, r := range f.reserved {
		if reserved, taken := p.Reserved(owner); reserved != r || taken != f.taken(owner) {
			t.Fatalf("Reserved(%d): %d %d, want %d %d", owner, reserved, taken, r, f.taken(owner))
		}
	}
	if p.Room() != f.room() {
		t.Fatalf("Room: %d, want %d", p.Room(), f.room())
	}
	if l := pairs(p.All()); !slices.Equal(l, f.all()) {
		t.Fatalf("All: %v, want %v", l, f.all())
	}
	for x, owner := range f.owner {
		got, is := p.Owner(x)
		if is != (owner >= 0) || got != max(owner, 0) {
			t.Fatalf("Owner(%d): %d %v, want %d", x, got, is, owner)
		}
		want, e := f.reach(x, 0, api.PageSize)
		wantRead(t, p, x, 0, api.PageSize, want, e)
	}
}

// P7.1, P7.2, the examples
func TestExamples(t *testing.T) {
	p := made(t, 3)
	wantReserve(t, p, 1, 2, api.OK)
	wantReserve(t, p, 2, 2, api.ErrFrames)
	wantTake(t, p, 1, 0, api.OK)
	wantTake(t, p, 1, 1, api.OK)
	wantTake(t, p, 1, 0, api.ErrLeft)
	wantTake(t, p, 2, 0, api.ErrLeft)
	wantWrite(t, p, 0, 255, []byte{9}, api.OK)
	wantWrite(t, p, 0, 255, []byte{9, 9}, api.ErrRange)
	wantGive(t, p, 0, api.OK)
	wantTake(t, p, 1, 0, api.OK)
	wantRead(t, p, 0, 255, 1, []byte{0}, api.OK)
	wantReserve(t, p, 1, 1, api.ErrHeld)
}

// P7.1
func TestNew(t *testing.T) {
	for _, many := range []int{0, 1, 2, 3, 63, 64, 65, 400, 16383, 16384} {
		p := made(t, many)
		if p.Room() != many || len(pairs(p.All())) != 0 {
			t.Errorf("of %d: Room %d, All %v", many, p.Room(), pairs(p.All()))
		}
	}
	check(t, made(t, 70), factsOf(70))
	for _, many := range slices.Concat(below, []int{16385, 16386, 32768, 65536, 65539, 1 << 31, 1 << 32, 1<<32 + 3, math.MaxInt32, math.MaxInt - 1, math.MaxInt}) {
		if p, e := frame.New(many); p != nil || e != api.ErrArg {
			t.Errorf("New(%d): %v %v, want ErrArg", many, p, e)
		}
	}
}

// P7.1
func TestNewOnesAreApart(t *testing.T) {
	p, q := made(t, 3), made(t, 3)
	wantReserve(t, p, 1, 3, api.OK)
	taken(t, p, 1)
	check(t, q, factsOf(3))
}

// P7.1: the number is the owner's, not one more than what it had
func TestReserveIsJustSoMany(t *testing.T) {
	p, f := made(t, 10), factsOf(10)
	for _, many := range []int{0, 3, 3, 10, 0, 7, 1, 10, 9, 10, 0} {
		wantReserve(t, p, 5, many, api.OK)
		f.reserved[5] = many
		check(t, p, f)
	}
}

// P7.1: a bound for each owner, and one for all
func TestReserveOfEachOwner(t *testing.T) {
	p, f := made(t, owners+1), factsOf(owners+1)
	for owner := range owners {
		wantReserve(t, p, owner, 1, api.OK)
		f.reserved[owner] = 1
	}
	check(t, p, f)
	for owner := range owners {
		wantReserve(t, p, owner, 3, api.ErrFrames)
		wantReserve(t, p, owner, 2, api.OK)
		wantReserve(t, p, (owner+1)%owners, 2, api.ErrFrames)
		wantReserve(t, p, owner, 1, api.OK)
	}
	check(t, p, f)
}

// P7.1: not so many are unreserved, by one and by far
func TestReserveOfTooMany(t *testing.T) {
	for _, many := range []int{0, 1, 3, 400, api.MaxFrames} {
		p := made(t, many)
		wantReserve(t, p, 1, many/3, api.OK)
		left := many - many/3
		for _, more := range []int{1, 2, 64, 256, 65536, 16385, 1 << 31, 1 << 32, 1<<32 + 1, math.MaxInt32} {
			wantReserve(t, p, 2, left+more, api.ErrFrames)
			wantReserve(t, p, 1, many+more, api.ErrFrames)
		}
		wantReserve(t, p, 2, math.MaxInt, api.ErrFrames)
		wantReserve(t, p, 1, math.MaxInt, api.ErrFrames)
		if a, b := p.Reserved(1); a != many/3 || b != 0 || p.Room() != left {
			t.Fatalf("of %d: Reserved(1) %d %d, Room %d", many, a, b, p.Room())
		}
		wantReserve(t, p, 2, left, api.OK)
		wantReserve(t, p, 1, many/3+1, api.ErrFrames)
		wantReserve(t, p, 1, many/3, api.OK)
	}
}

// P7.1
func TestReserveOfFewerThanItHas(t *testing.T) {
	p := held(t, 9, map[int]int{1: 4, 2: 3})
	f := factsOf(9)
	copy(f.owner, []int{1, 1, 1, 1, 2, 2, 2})
	f.reserved[1], f.reserved[2] = 4, 3
	for many := range 4 {
		wantReserve(t, p, 1, many, api.ErrHeld)
	}
	check(t, p, f)
	wantReserve(t, p, 1, 4, api.OK)
	wantGive(t, p, 2, api.OK)
	wantReserve(t, p, 1, 2, api.ErrHeld)
	wantReserve(t, p, 1, 3, api.OK)
	f.owner[2], f.reserved[1] = -1, 3
	check(t, p, f)
	wantReserve(t, p, 3, 3, api.OK)
	wantReserve(t, p, 1, 4, api.ErrFrames)
}

// P7.1: what may not be is refused ahead of all else, and changes nothing
func TestOwnersAndNumbersThatMayNotBe(t *testing.T) {
	p := held(t, 5, map[int]int{0: 1, 1: 2, 63: 1})
	f := factsOf(5)
	copy(f.owner, []int{0, 1, 1, 63})
	f.reserved[0], f.reserved[1], f.reserved[63] = 1, 2, 1
	for _, owner := range noOwners {
		for _, many := range []int{0, 1, 5, 6, -1, math.MaxInt, math.MinInt} {
			wantReserve(t, p, owner, many, api.ErrArg)
		}
		wantTake(t, p, owner, 0, api.ErrArg)
		if a, b := p.Reserved(owner); a != 0 || b != 0 {
			t.Errorf("Reserved(%d): %d %d", owner, a, b)
		}
	}
	for _, many := range below {
		for owner := range owners {
			wantReserve(t, p, owner, many, api.ErrArg)
		}
	}
	check(t, p, f)
}

// P7.1: the least free frame, whoever had it, in whatever order they were given
func TestTakeIsOfTheLeastFree(t *testing.T) {
	r := rand.New(rand.NewSource(7))
	for range 200 {
		p := held(t, 12, map[int]int{1: 6, 2: 6})
		given := r.Perm(12)[:1+r.Intn(12)]
		for _, x := range given {
			wantGive(t, p, x, api.OK)
		}
		for n, x := range slices.Sorted(slices.Values(given)) {
			owner := 1 + r.Intn(2)
			if a, b := p.Reserved(owner); a == b {
				owner = 3 - owner
			}
			wantTake(t, p, owner, x, api.OK)
			if got, is := p.Owner(x); got != owner || !is {
				t.Fatalf("given %v, take %d: Owner(%d) %d %v, want %d", given, n, x, got, is, owner)
			}
		}
	}
}

// P7.1
func TestTakeOfNoneLeft(t *testing.T) {
	p := made(t, 4)
	wantTake(t, p, 0, 0, api.ErrLeft)
	wantReserve(t, p, 0, 1, api.OK)
	wantTake(t, p, 0, 0, api.OK)
	wantTake(t, p, 0, 0, api.ErrLeft)
	wantReserve(t, p, 0, 2, api.OK)
	wantTake(t, p, 0, 1, api.OK)
	wantTake(t, p, 0, 0, api.ErrLeft)
	wantGive(t, p, 0, api.OK)
	wantReserve(t, p, 0, 1, api.OK)
	wantTake(t, p, 0, 0, api.ErrLeft)
	if l := pairs(p.All()); !slices.Equal(l, [][2]int{{1, 0}}) {
		t.Errorf("All: %v", l)
	}
}

// P7.1
func TestGive(t *testing.T) {
	for _, many := range []int{0, 1, 3, 70} {
		p, f := made(t, many), factsOf(many)
		for _, x := range beyond(many) {
			wantGive(t, p, x, api.ErrRange)
		}
		for x := range many {
			wantGive(t, p, x, api.ErrNone)
		}
		wantReserve(t, p, 9, many, api.OK)
		f.reserved[9] = many
		for x := range many {
			wantTake(t, p, 9, x, api.OK)
			f.owner[x] = 9
		}
		for _, x := range beyond(many) {
			wantGive(t, p, x, api.ErrRange)
		}
		for x := range many {
			wantGive(t, p, x, api.OK)
			wantGive(t, p, x, api.ErrNone)
			f.owner[x] = -1
			check(t, p, f)
		}
	}
}

// P7.2: each place and number beside a frame's ends
func TestReachesBesideTheEnds(t *testing.T) {
	p, f := held(t, 3, map[int]int{1: 1, 2: 1}), factsOf(3)
	copy(f.owner, []int{1, 2})
	b := make([]byte, 2*api.PageSize)
	for i := range b {
		b[i] = byte(i*7 + 1)
	}
	f.reserved[1], f.reserved[2] = 1, 1
	ends := []int{-257, -256, -255, -2, -1, 0, 1, 2, 100, 127, 128, 129, 254, 255, 256, 257, 258, 511, 512}
	for _, x := range []int{0, 1, 2, 3, -1} {
		for _, at := range ends {
			for _, many := range ends {
				want, e := f.reach(x, at, many)
				wantRead(t, p, x, at, many, want, e)
				if many < 0 {
					continue
				}
				wantWrite(t, p, x, at, b[:many], e)
				copy(want, b)
				wantRead(t, p, x, at, many, want, e)
				b[0]++
			}
		}
		check(t, p, f)
	}
}

// P7.2: each reach that goes to a frame's end, and over it
func TestEachPlace(t *testing.T) {
	p := held(t, 2, map[int]int{1: 2})
	for at := range api.PageSize + 1 {
		b := bytes.Repeat([]byte{byte(at + 1)}, api.PageSize-at+1)
		wantWrite(t, p, 0, at, b, api.ErrRange)
		wantRead(t, p, 0, at, len(b), nil, api.ErrRange)
		wantWrite(t, p, 0, at, b[1:], api.OK)
		wantRead(t, p, 0, at, len(b)-1, b[1:], api.OK)
	}
	whole := make([]byte, api.PageSize)
	wantRead(t, p, 1, 0, api.PageSize, whole, api.OK)
	for at := range whole {
		whole[at] = byte(at + 1)
	}
	wantRead(t, p, 0, 0, api.PageSize, whole, api.OK)
}

// P7.2: numbers that together go round, or that a narrower kind would cut
func TestReachesOfHugeNumbers(t *testing.T) {
	p := held(t, 2, map[int]int{1: 1})
	huge := []int{257, 512, 65536, 1<<31 - 1, 1 << 31, 1 << 32, 1<<32 + 1, math.MaxInt - 256, math.MaxInt - 1, math.MaxInt, math.MinInt, math.MinInt + 1, math.MinInt + 256, -1, -256, -1 << 32, 1 - 1<<32}
	for _, at := range huge {
		wantWrite(t, p, 0, at, nil, api.ErrRange)
		wantWrite(t, p, 0, at, []byte{1}, api.ErrRange)
		wantWrite(t, p, 0, at, make([]byte, 257), api.ErrRange)
		for _, many := range append(huge, 0, 1, 255, 256) {
			wantRead(t, p, 0, at, many, nil, api.ErrRange)
		}
		for _, from := range []int{0, 1, 255, 256} {
			wantRead(t, p, 0, from, at, nil, api.ErrRange)
		}
	}
	wantWrite(t, p, 0, 0, make([]byte, 1<<20), api.ErrRange)
	wantRead(t, p, 0, 0, api.PageSize, make([]byte, api.PageSize), api.OK)
}

// P7.2: what there is not goes ahead of a free frame, also of no bytes
func TestReachesOfFramesThatAreNobodys(t *testing.T) {
	p := held(t, 3, map[int]int{1: 2})
	wantGive(t, p, 0, api.OK)
	for _, x := range []int{0, 2} {
		wantRead(t, p, x, 0, 1, nil, api.ErrNone)
		wantRead(t, p, x, 256, 0, nil, api.ErrNone)
		wantWrite(t, p, x, 0, []byte{1}, api.ErrNone)
		wantWrite(t, p, x, 256, nil, api.ErrNone)
		wantRead(t, p, x, 256, 1, nil, api.ErrRange)
		wantRead(t, p, x, 0, -1, nil, api.ErrRange)
		wantRead(t, p, x, 257, 0, nil, api.ErrRange)
		wantWrite(t, p, x, 256, []byte{1}, api.ErrRange)
		wantWrite(t, p, x, -1, nil, api.ErrRange)
	}
	for _, x := range beyond(3) {
		wantRead(t, p, x, 0, 1, nil, api.ErrRange)
		wantRead(t, p, x, 0, 0, nil, api.ErrRange)
		wantWrite(t, p, x, 0, []byte{1}, api.ErrRange)
		wantWrite(t, p, x, 0, nil, api.ErrRange)
		if owner, is := p.Owner(x); owner != 0 || is {
			t.Errorf("Owner(%d): %d %v", x, owner, is)
		}
	}
}

// P7.4: what is taken is all 0, whoever wrote there, and what is free is nobody's to write
func TestTakenFramesAreAllZero(t *testing.T) {
	p := held(t, 3, map[int]int{1: 3})
	wantReserve(t, p, 1, 3, api.OK)
	full, zero := bytes.Repeat([]byte{255}, api.PageSize), make([]byte, api.PageSize)
	for x := range 3 {
		wantWrite(t, p, x, 0, full, api.OK)
	}
	for x := range 3 {
		wantGive(t, p, x, api.OK)
		wantWrite(t, p, x, 0, full, api.ErrNone)
	}
	wantReserve(t, p, 1, 0, api.OK)
	wantReserve(t, p, 2, 3, api.OK)
	for x := range 3 {
		wantTake(t, p, 2, x, api.OK)
		wantRead(t, p, x, 0, api.PageSize, zero, api.OK)
	}
}

// P7.4: whatever others reserve, take and give, and however much they ask for
func TestWhatIsLeftCanBeTaken(t *testing.T) {
	r := rand.New(rand.NewSource(74))
	for range 100 {
		p := made(t, 20)
		mine := 1 + r.Intn(6)
		wantReserve(t, p, 0, mine, api.OK)
		for range 200 {
			p.Reserve(1+r.Intn(3), r.Intn(25))
			p.Take(1 + r.Intn(3))
			if x := r.Intn(20); r.Intn(3) == 0 {
				p.Give(x)
			}
		}
		seen := map[int]int{}
		for range mine {
			seen[taken(t, p, 0)]++
		}
		if len(seen) != mine {
			t.Fatalf("%d taken: %v", mine, seen)
		}
		wantTake(t, p, 0, 0, api.ErrLeft)
	}
}

// P7.1 to P7.4: held against plain lists, call by call
func TestCallsInAnyOrder(t *testing.T) {
	r := rand.New(rand.NewSource(1))
	for _, many := range []int{0, 1, 2, 5, 30} {
		p, f := made(t, many), factsOf(many)
		for range 4000 {
			owner, x := r.Intn(6)-1, r.Intn(many+2)-1
			switch r.Intn(6) {
			case 0:
				n := r.Intn(many+3) - 1
				wantReserve(t, p, owner, n, f.reserve(owner, n))
			case 1, 2:
				want, e := f.take(owner)
				wantTake(t, p, owner, want, e)
			case 3:
				wantGive(t, p, x, f.give(x))
			case 4:
				b := make([]byte, r.Intn(6))
				r.Read(b)
				at := r.Intn(260) - 1
				to, e := f.reach(x, at, len(b))
				copy(to, b)
				wantWrite(t, p, x, at, b, e)
			default:
				at, n := r.Intn(260)-1, r.Intn(260)-1
				want, e := f.reach(x, at, n)
				wantRead(t, p, x, at, n, want, e)
			}
			if r.Intn(20) == 0 {
				check(t, p, f)
			}
		}
		check(t, p, f)
	}
}

// Limits: MaxFrames frames
func TestMostFrames(t *testing.T) {
	p := made(t, api.MaxFrames)
	wantReserve(t, p, 63, api.MaxFrames-1, api.OK)
	wantReserve(t, p, 0, 2, api.ErrFrames)
	wantReserve(t, p, 0, 1, api.OK)
	for x := range api.MaxFrames - 1 {
		wantTake(t, p, 63, x, api.OK)
	}
	wantTake(t, p, 63, 0, api.ErrLeft)
	wantTake(t, p, 0, api.MaxFrames-1, api.OK)
	wantWrite(t, p, api.MaxFrames-1, 255, []byte{7}, api.OK)
	wantWrite(t, p, api.MaxFrames, 0, []byte{7}, api.ErrRange)
	if a, b := p.Reserved(63); a != api.MaxFrames-1 || b != a || p.Room() != 0 || len(pairs(p.All())) != api.MaxFrames {
		t.Fatalf("Reserved(63) %d %d, Room %d, All of %d", a, b, p.Room(), len(pairs(p.All())))
	}
	if q := p.Copy(); !frame.Same(p, q) {
		t.Error("Copy is not the same")
	}
	for x := api.MaxFrames - 1; x >= 0; x-- {
		wantGive(t, p, x, api.OK)
	}
	wantTake(t, p, 63, 0, api.OK)
}

// P7.3
func TestAllIsAsItWasWhenCalled(t *testing.T) {
	p := held(t, 6, map[int]int{1: 2, 2: 2})
	all, want := p.All(), [][2]int{{0, 1}, {1, 1}, {2, 2}, {3, 2}}
	wantGive(t, p, 0, api.OK)
	wantGive(t, p, 3, api.OK)
	wantReserve(t, p, 3, 1, api.OK)
	wantTake(t, p, 3, 0, api.OK)
	for range 2 {
		if l := pairs(all); !slices.Equal(l, want) {
			t.Errorf("All of before: %v", l)
		}
	}
	if l := pairs(p.All()); !slices.Equal(l, [][2]int{{0, 3}, {1, 1}, {2, 2}}) {
		t.Errorf("All: %v", l)
	}
}

// P7.3
func TestAllWhileItIsChanged(t *testing.T) {
	p := held(t, 6, map[int]int{1: 2, 2: 2})
	var l [][2]int
	for x, owner := range p.All() {
		l = append(l, [2]int{x, owner})
		for y := range 6 {
			p.Give(y)
		}
		p.Take(2)
	}
	if !slices.Equal(l, [][2]int{{0, 1}, {1, 1}, {2, 2}, {3, 2}}) {
		t.Errorf("All: %v", l)
	}
}

// P7.3
func TestAllLeftAtAnyTimeAndGoneOverAgain(t *testing.T) {
	p := held(t, 9, map[int]int{1: 2, 2: 3, 0: 1})
	all, whole := p.All(), [][2]int{{0, 0}, {1, 1}, {2, 1}, {3, 2}, {4, 2}, {5, 2}}
	for many := range len(whole) + 1 {
		var l [][2]int
		all(func(x, owner int) bool {
			if len(l) > many {
				t.Fatalf("told on after it was left at %d", many)
			}
			l = append(l, [2]int{x, owner})
			return len(l) <= many
		})
		if !slices.Equal(l, whole[:min(many+1, len(whole))]) {
			t.Errorf("left behind %d: %v", many, l)
		}
		if l := pairs(all); !slices.Equal(l, whole) {
			t.Errorf("gone over again: %v", l)
		}
	}
}

// P7.3
func TestCopiesGoOnApart(t *testing.T) {
	p, f := held(t, 6, map[int]int{1: 2, 2: 1}), factsOf(6)
	copy(f.owner, []int{1, -1, 2})
	f.reserved[1], f.reserved[2] = 2, 1
	wantGive(t, p, 1, api.OK)
	wantWrite(t, p, 0, 3, []byte("abc"), api.OK)
	copy(f.bytes[0][3:], "abc")
	change := func(p *frame.Pool, f *facts, b string) {
		wantWrite(t, p, 0, 4, []byte(b), api.OK)
		copy(f.bytes[0][4:], b)
		wantReserve(t, p, 2, 4, f.reserve(2, 4))
		want, e := f.take(2)
		wantTake(t, p, 2, want, e)
		want, e = f.take(2)
		wantTake(t, p, 2, want, e)
		wantWrite(t, p, want, 0, []byte(b), api.OK)
		copy(f.bytes[want][:], b)
		wantGive(t, p, 2, f.give(2))
	}
	q, g := p.Copy(), f.copied()
	check(t, q, g)
	change(p, f, "xy")
	check(t, q, g)
	check(t, p, f)
	u, v := q.Copy(), g.copied()
	change(q, g, "12")
	check(t, p, f)
	check(t, u, v)
	check(t, q, g)
}

// P7.3: of a copy, as of what it is of, the least free frame is taken
func TestCopiesTakeTheLeastFree(t *testing.T) {
	p := held(t, 6, map[int]int{1: 6})
	for _, x := range []int{4, 1, 3} {
		wantGive(t, p, x, api.OK)
	}
	q := p.Copy()
	wantGive(t, p, 0, api.OK)
	wantGive(t, q, 2, api.OK)
	for _, x := range []int{0, 1, 3, 4} {
		wantTake(t, p, 1, x, api.OK)
	}
	for _, x := range []int{1, 2, 3, 4} {
		wantTake(t, q, 1, x, api.OK)
	}
}

// P7.3: each thing that makes two unlike
func TestSame(t *testing.T) {
	of := func(does func(p *frame.Pool)) *frame.Pool {
		p := held(t, 5, map[int]int{1: 2, 2: 1})
		does(p)
		return p
	}
	l := []*frame.Pool{
		of(func(p *frame.Pool) {}),
		held(t, 6, map[int]int{1: 2, 2: 1}),
		of(func(p *frame.Pool) { p.Reserve(1, 3) }),
		of(func(p *frame.Pool) { p.Reserve(2, 2) }),
		of(func(p *frame.Pool) { p.Reserve(63, 1) }),
		of(func(p *frame.Pool) { p.Give(1) }),
		of(func(p *frame.Pool) { p.Give(0) }),
		of(func(p *frame.Pool) { p.Give(0); p.Reserve(1, 1) }),
		of(func(p *frame.Pool) { p.Give(0); p.Give(2); p.Take(2); p.Take(1) }),
		of(func(p *frame.Pool) { p.Write(0, 0, []byte{1}) }),
		of(func(p *frame.Pool) { p.Write(0, 255, []byte{1}) }),
		of(func(p *frame.Pool) { p.Write(2, 255, []byte{1}) }),
		made(t, 5), made(t, 0), nil,
	}
	for i, a := range l {
		for k, b := range l {
			if frame.Same(a, b) != (i == k) {
				t.Errorf("Same(%d, %d): %v", i, k, i != k)
			}
		}
		if !frame.Same(a, a.Copy()) || !frame.Same(a.Copy(), a) {
			t.Errorf("%d is not the same as its copy", i)
		}
	}
}

// P7.3: how they came to be so is not told, nor what stands in a free frame
func TestSameByOtherWays(t *testing.T) {
	p := held(t, 5, map[int]int{1: 2})
	q := held(t, 5, map[int]int{3: 5})
	for x := range 5 {
		wantWrite(t, q, x, 9, []byte("old"), api.OK)
		wantGive(t, q, x, api.OK)
	}
	wantReserve(t, q, 3, 0, api.OK)
	wantReserve(t, q, 1, 5, api.OK)
	for range 5 {
		taken(t, q, 1)
	}
	wantWrite(t, q, 1, 0, []byte("ab"), api.OK)
	wantWrite(t, q, 2, 0, []byte("cd"), api.OK)
	for _, x := range []int{3, 2, 4} {
		wantGive(t, q, x, api.OK)
	}
	wantReserve(t, q, 1, 2, api.OK)
	if frame.Same(p, q) {
		t.Error("Same of other bytes")
	}
	wantWrite(t, q, 1, 0, []byte{0, 0}, api.OK)
	if !frame.Same(p, q) || !frame.Same(q, p) {
		t.Error("not the same")
	}
	if !frame.Same(made(t, 0), made(t, 0)) {
		t.Error("those of no frames are not the same")
	}
}

// P7.1 to P7.3; Rules: a pool that is not there; a zero object is as a nil one
func TestNoPool(t *testing.T) {
	refused, _ := frame.New(-1)
	none := []*frame.Pool{nil, new(frame.Pool), {}, refused, (*frame.Pool)(nil).Copy(), new(frame.Pool).Copy()}
	for i, p := range none {
		for _, n := range []int{0, 1, 63, 64, 256, -1, math.MaxInt, math.MinInt} {
			wantReserve(t, p, n, n, api.ErrNil)
			wantReserve(t, p, 0, n, api.ErrNil)
			wantTake(t, p, n, 0, api.ErrNil)
			wantGive(t, p, n, api.ErrNil)
			wantRead(t, p, n, n, n, nil, api.ErrNil)
			wantRead(t, p, 0, 0, n, nil, api.ErrNil)
			wantWrite(t, p, n, n, nil, api.ErrNil)
			wantWrite(t, p, 0, 0, []byte{1}, api.ErrNil)
			if owner, is := p.Owner(n); owner != 0 || is {
				t.Errorf("%d: Owner(%d) %d %v", i, n, owner, is)
			}
			if a, b := p.Reserved(n); a != 0 || b != 0 {
				t.Errorf("%d: Reserved(%d) %d %d", i, n, a, b)
			}
		}
		if p.Room() != 0 || p.Copy() != nil || len(pairs(p.All())) != 0 {
			t.Errorf("%d: Room %d, Copy %v, All %v", i, p.Room(), p.Copy(), pairs(p.All()))
		}
		for k, o := range none {
			if !frame.Same(p, o) {
				t.Errorf("Same(%d, %d): false", i, k)
			}
		}
		for _, many := range []int{0, 1} {
			if o := made(t, many); frame.Same(p, o) || frame.Same(o, p) {
				t.Errorf("%d is the same as a pool of %d", i, many)
			}
		}
	}
}

// P7.1 to P7.3: a pool of no frames is there
func TestPoolOfNoFrames(t *testing.T) {
	for _, p := range []*frame.Pool{made(t, 0), made(t, 0).Copy()} {
		wantReserve(t, p, 0, 0, api.OK)
		wantReserve(t, p, 0, 1, api.ErrFrames)
		wantReserve(t, p, 64, 0, api.ErrArg)
		wantTake(t, p, 0, 0, api.ErrLeft)
		wantGive(t, p, 0, api.ErrRange)
		wantRead(t, p, 0, 0, 0, nil, api.ErrRange)
		wantWrite(t, p, 0, 0, nil, api.ErrRange)
		if p.Copy() == nil || p.Room() != 0 || len(pairs(p.All())) != 0 {
			t.Errorf("Copy %v, Room %d, All %v", p.Copy(), p.Room(), pairs(p.All()))
		}
	}
}

// Rules: an answer is new memory; what is handed in is not kept, and not changed, spare room behind it included
func TestNoMemoryIsShared(t *testing.T) {
	p := held(t, 2, map[int]int{1: 2})
	b := append(make([]byte, 0, 600), "abcdef"...)
	spare := b[:600]
	for i := 6; i < 600; i++ {
		spare[i] = byte(i)
	}
	was := bytes.Clone(spare)
	wantWrite(t, p, 0, 253, b[:3], api.OK)
	wantWrite(t, p, 0, 253, b[:4], api.ErrRange)
	if !bytes.Equal(spare, was) {
		t.Errorf("changed: %x", spare)
	}
	copy(b, "xyz")
	wantRead(t, p, 0, 253, 3, []byte("abc"), api.OK)
	for _, many := range []int{0, 3} {
		l, _ := p.Read(0, 253, many)
		for i := range l {
			l[i] = 9
		}
		_ = append(l, 7, 7, 7)
		wantRead(t, p, 0, 253, 3, []byte("abc"), api.OK)
		wantRead(t, p, 1, 0, 3, make([]byte, 3), api.OK)
	}
	l, _ := p.Read(0, 253, 3)
	wantWrite(t, p, 0, 253, []byte("123"), api.OK)
	if string(l) != "abc" {
		t.Errorf("read before: %s", l)
	}
}
