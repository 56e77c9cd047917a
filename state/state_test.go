package state_test

import (
	"iter"
	"math"
	"math/rand"
	"slices"
	"strings"
	"testing"

	"pinfold/api"
	"pinfold/state"
)

// most is how many slots a sheet may have.
const most = 256

// all are the states that there are.
var all = []api.State{api.StateFree, api.StateKept, api.StateLive, api.StateHeld, api.StateGone}

// letters are the states' bytes in a text.
const letters = "fklhg"

// may is what each state may become, by their bytes.
var may = map[byte]string{'f': "k", 'k': "fl", 'l': "hg", 'h': "fg", 'g': ""}

// noStates are no states: beside both ends, and those that a narrower kind would cut to one.
var noStates = []api.State{5, 6, 7, 8, 9, 16, 64, 100, 'f', 'g', 'h', 'k', 'l', 255, 256, 257, 260, 65536, 65537, 1<<31 - 1, 1 << 31, 1 << 32, 1<<32 + 1, 1<<32 + 4, 1 << 62, math.MaxInt - 1, math.MaxInt, -1, -2, -3, -4, -5, -6, -251, -252, -255, -256, 1 - 1<<16, -1 << 31, 2 - 1<<32, -1 << 32, math.MinInt, math.MinInt + 1, math.MinInt + 4}

// lengths are numbers of slots: none, few, those beside powers of 2, the most.
var lengths = []int{0, 1, 2, 3, 4, 5, 7, 8, 9, 31, 32, 63, 64, 65, 85, 127, 128, 129, 200, 254, 255, 256}

// noLengths are numbers of slots that may not be: those beside, those that a narrower kind would cut to one that may.
var noLengths = []int{257, 258, 259, 511, 512, 513, 4096, 65535, 65536, 65538, 1<<31 - 1, 1 << 31, 1<<32 - 1, 1 << 32, 1<<32 + 5, 1 << 62, math.MaxInt - 1, math.MaxInt, -1, -2, -3, -255, -256, -257, -65534, -65536, -1 << 31, 5 - 1<<32, -1 << 32, math.MinInt, math.MinInt + 1, math.MinInt + 5}

// outside are places at which there is no slot, of so many.
func outside(many int) []int {
	return []int{many, many + 1, many + 2, many + 255, many + 256, many + 65536, 256, 1 << 31, 1 << 32, 1<<32 + many/2, 1<<62 + 1, math.MaxInt - 1, math.MaxInt, -1, -2, -many - 1, -256, -65536, -1 << 31, many/2 - 1<<32, -1 << 32, math.MinInt, math.MinInt + 1, math.MinInt + many/2}
}

// texts are all of few slots, and some of each length.
func texts() []string {
	l := []string{""}
	for from := 0; len(l[len(l)-1]) < 4; {
		until := len(l)
		for ; from < until; from++ {
			for _, b := range letters {
				l = append(l, l[from]+string(b))
			}
		}
	}
	r := rand.New(rand.NewSource(14))
	for _, many := range lengths {
		for _, b := range letters {
			l = append(l, strings.Repeat(string(b), many))
		}
		for range 4 {
			l = append(l, some(r, many))
		}
	}
	return l
}

// some is a text of so many slots.
func some(r *rand.Rand, many int) string {
	b := make([]byte, many)
	for at := range b {
		b[at] = letters[r.Intn(len(letters))]
	}
	return string(b)
}

// stateOf is the state of a text's byte.
func stateOf(b byte) api.State { return all[strings.IndexByte(letters, b)] }

// such are the places of a text that are that.
func such(text string, x api.State) []int {
	var l []int
	for at := range len(text) {
		if stateOf(text[at]) == x {
			l = append(l, at)
		}
	}
	return l
}

// changed is a text with another state at one place.
func changed(text string, at int, x api.State) string {
	return text[:at] + letters[x:x+1] + text[at+1:]
}

func made(t *testing.T, many int) *state.Sheet {
	t.Helper()
	s, e := state.New(many)
	if s == nil || e != api.OK {
		t.Fatalf("New(%d): %v %v", many, s, e)
	}
	return s
}

func parsed(t *testing.T, text string) *state.Sheet {
	t.Helper()
	s, e := state.Parse(text)
	if s == nil || e != api.OK {
		t.Fatalf("Parse(%q): %v %v", text, s, e)
	}
	return s
}

func gone(l iter.Seq[int]) []int { return slices.Collect(l) }

func wantMove(t *testing.T, s *state.Sheet, at int, to, want api.State, e api.Errno) {
	t.Helper()
	if was, f := s.Move(at, to); was != want || f != e {
		t.Fatalf("Move(%d, %d): %d %v, want %d %v", at, to, was, f, want, e)
	}
}

func wantAll(t *testing.T, l iter.Seq[int], want ...int) {
	t.Helper()
	if l == nil {
		t.Fatal("no iterator")
	}
	if got := gone(l); !slices.Equal(got, want) {
		t.Fatalf("All: %v, want %v", got, want)
	}
}

// check holds all that a sheet tells against its text.
func check(t *testing.T, s *state.Sheet, text string) {
	t.Helper()
	if s.Text() != text || s.Len() != len(text) {
		t.Fatalf("Text %s, Len %d, want %s, %d", s.Text(), s.Len(), text, len(text))
	}
	for _, x := range all {
		l := such(text, x)
		if s.Count(x) != len(l) {
			t.Fatalf("%s: Count(%d) %d, want %d", text, x, s.Count(x), len(l))
		}
		wantAll(t, s.All(x), l...)
	}
	for at := range len(text) {
		if x, is := s.Get(at); x != stateOf(text[at]) || !is {
			t.Fatalf("%s: Get(%d): %d %v", text, at, x, is)
		}
	}
}

// P14.1, P14.2, the examples
func TestExamples(t *testing.T) {
	s := made(t, 2)
	wantMove(t, s, 0, api.StateKept, api.StateFree, api.OK)
	wantMove(t, s, 0, api.StateLive, api.StateKept, api.OK)
	wantMove(t, s, 1, api.StateLive, 0, api.ErrMove)
	check(t, s, "lf")
	wantMove(t, s, 0, api.StateGone, api.StateLive, api.OK)
	wantMove(t, s, 0, api.StateFree, 0, api.ErrMove)
	if n := s.Count(api.StateGone); n != 1 {
		t.Errorf("Count(gone): %d", n)
	}
	wantMove(t, s, 2, api.StateKept, 0, api.ErrRange)
	wantMove(t, s, 0, 9, 0, api.ErrArg)
	if o, e := state.Parse("fx"); o != nil || e != api.ErrSheet {
		t.Errorf("Parse(fx): %v %v", o, e)
	}
	if state.Name(3) != "held" {
		t.Errorf("Name(3): %s", state.Name(3))
	}
	check(t, s, "gf")
}

// P14.1: of all pairs just those that the chapter names; none of what is no state
func TestMay(t *testing.T) {
	many := 0
	for _, from := range all {
		for _, to := range all {
			want := strings.IndexByte(may[letters[from]], letters[to]) >= 0
			if state.May(from, to) != want {
				t.Errorf("May(%d, %d): %v", from, to, !want)
			}
			if want {
				many++
			}
		}
	}
	if many != 7 {
		t.Errorf("%d pairs may be", many)
	}
	for _, x := range noStates {
		for _, y := range append(noStates, all...) {
			if state.May(x, y) || state.May(y, x) {
				t.Errorf("May of %d and %d", x, y)
			}
		}
	}
}

// P14.1
func TestName(t *testing.T) {
	for i, want := range []string{"free", "kept", "live", "held", "gone"} {
		if got := state.Name(api.State(i)); got != want {
			t.Errorf("Name(%d): %q, want %q", i, got, want)
		}
	}
	for _, x := range noStates {
		if got := state.Name(x); got != "" {
			t.Errorf("Name(%d): %q", x, got)
		}
	}
}

// P14.1: at first free
func TestNew(t *testing.T) {
	for many := range most + 1 {
		check(t, made(t, many), strings.Repeat("f", many))
	}
	for _, many := range noLengths {
		if s, e := state.New(many); s != nil || e != api.ErrArg {
			t.Errorf("New(%d): %v %v, want ErrArg", many, s, e)
		}
	}
}

// P14.1
func TestNewOnesAreApart(t *testing.T) {
	a, b := made(t, 70), made(t, 70)
	wantMove(t, a, 3, api.StateKept, api.StateFree, api.OK)
	wantMove(t, b, 69, api.StateKept, api.StateFree, api.OK)
	check(t, a, changed(strings.Repeat("f", 70), 3, api.StateKept))
	check(t, b, changed(strings.Repeat("f", 70), 69, api.StateKept))
	if state.Same(a, b) {
		t.Error("Same of sheets that are not")
	}
}

// P14.1: none where there is no slot
func TestGet(t *testing.T) {
	for _, text := range texts() {
		s := parsed(t, text)
		for _, at := range outside(len(text)) {
			if at >= 0 && at < len(text) {
				continue
			}
			if x, is := s.Get(at); x != 0 || is {
				t.Fatalf("%s: Get(%d): %d %v", text, at, x, is)
			}
		}
		check(t, s, text)
	}
}

// P14.1: each of all sheets of few slots, to each state; what is refused changes nothing, what is done that slot alone
func TestMove(t *testing.T) {
	for _, text := range texts() {
		if len(text) > 4 {
			continue
		}
		for at := range len(text) {
			for _, to := range all {
				s := parsed(t, text)
				if strings.IndexByte(may[text[at]], letters[to]) < 0 {
					wantMove(t, s, at, to, 0, api.ErrMove)
					check(t, s, text)
					continue
				}
				wantMove(t, s, at, to, stateOf(text[at]), api.OK)
				check(t, s, changed(text, at, to))
			}
		}
	}
}

// P14.1: each slot of sheets of all lengths, through all states
func TestMoveEachSlot(t *testing.T) {
	for _, many := range lengths {
		s := made(t, many)
		text := strings.Repeat("f", many)
		for _, path := range []string{"fkfklhfklhg", "fklg"} {
			for at := range many {
				if text[at] == 'g' {
					s, text = made(t, many), strings.Repeat("f", many)
				}
				for i := 1; i < len(path); i++ {
					wantMove(t, s, at, stateOf(path[i]), stateOf(path[i-1]), api.OK)
					text = changed(text, at, stateOf(path[i]))
				}
				check(t, s, text)
			}
		}
	}
}

// P14.1: no state, then no slot, then what may not be
func TestMovesThatMayNotBe(t *testing.T) {
	for _, text := range texts() {
		s := parsed(t, text)
		for _, to := range noStates {
			for _, at := range append(outside(len(text)), 0, len(text)/2, len(text)-1) {
				wantMove(t, s, at, to, 0, api.ErrArg)
			}
		}
		for _, to := range all {
			for _, at := range outside(len(text)) {
				if at < 0 || at >= len(text) {
					wantMove(t, s, at, to, 0, api.ErrRange)
				}
			}
		}
		check(t, s, text)
	}
}

// P14.1, P14.2; Rules: a sheet that is not there; a zero object is as a nil one
func TestNoSheet(t *testing.T) {
	refused, _ := state.New(-1)
	spoilt, _ := state.Parse("x")
	none := []*state.Sheet{nil, new(state.Sheet), {}, refused, spoilt, (*state.Sheet)(nil).Copy(), new(state.Sheet).Copy()}
	for i, s := range none {
		for _, at := range append(outside(0), 0, 1, 255) {
			for _, to := range append(noStates, all...) {
				wantMove(t, s, at, to, 0, api.ErrNil)
			}
			if x, is := s.Get(at); x != 0 || is {
				t.Errorf("%d: Get(%d): %d %v", i, at, x, is)
			}
		}
		for _, x := range append(noStates, all...) {
			if n := s.Count(x); n != 0 {
				t.Errorf("%d: Count(%d): %d", i, x, n)
			}
			wantAll(t, s.All(x))
		}
		if s.Len() != 0 || s.Text() != "" || s.Copy() != nil {
			t.Errorf("%d: Len %d, Text %q, Copy %v", i, s.Len(), s.Text(), s.Copy())
		}
		for k, o := range none {
			if !state.Same(s, o) {
				t.Errorf("Same(%d, %d): false", i, k)
			}
		}
		for _, many := range []int{0, 1, 5} {
			if o := made(t, many); state.Same(s, o) || state.Same(o, s) {
				t.Errorf("%d is the same as %d slots", i, many)
			}
		}
	}
}

// P14.1, P14.2: a sheet of no slots is there
func TestSheetOfNone(t *testing.T) {
	for i, s := range []*state.Sheet{made(t, 0), parsed(t, ""), made(t, 0).Copy(), parsed(t, "").Copy().Copy()} {
		wantMove(t, s, 0, api.StateKept, 0, api.ErrRange)
		wantMove(t, s, 0, 5, 0, api.ErrArg)
		check(t, s, "")
		if s.Copy() == nil || !state.Same(s, made(t, 0)) || state.Same(s, nil) || state.Same(nil, s) || state.Same(s, made(t, 1)) {
			t.Errorf("%d: of no slots, but not as such", i)
		}
	}
}

// P14.2: none are what is no state
func TestCountAndAllOfNoState(t *testing.T) {
	for _, text := range texts() {
		s := parsed(t, text)
		for _, x := range noStates {
			if n := s.Count(x); n != 0 {
				t.Errorf("%s: Count(%d): %d", text, x, n)
			}
			wantAll(t, s.All(x))
		}
		check(t, s, text)
	}
}

// P14.2
func TestAllIsAsItWasWhenCalled(t *testing.T) {
	s := parsed(t, "fkfl"+strings.Repeat("h", 70)+"f")
	l := s.All(api.StateFree)
	wantMove(t, s, 0, api.StateKept, api.StateFree, api.OK)
	wantMove(t, s, 1, api.StateFree, api.StateKept, api.OK)
	wantMove(t, s, 74, api.StateKept, api.StateFree, api.OK)
	wantMove(t, s, 70, api.StateFree, api.StateHeld, api.OK)
	for range 2 {
		wantAll(t, l, 0, 2, 74)
	}
	wantAll(t, s.All(api.StateFree), 1, 2, 70)
}

// P14.2
func TestAllWhileItIsChanged(t *testing.T) {
	text := strings.Repeat("fk", 100)
	for _, x := range []api.State{api.StateFree, api.StateKept} {
		s := parsed(t, text)
		var got []int
		for at := range s.All(x) {
			got = append(got, at)
			for to := range len(text) {
				if was, _ := s.Get(to); was == x {
					wantMove(t, s, to, 1-x, x, api.OK)
				}
			}
		}
		if !slices.Equal(got, such(text, x)) {
			t.Errorf("All of %d while none is that any more: %v", x, got)
		}
		check(t, s, strings.Repeat(letters[1-x:2-x], len(text)))
	}
}

// P14.2
func TestAllLeftAtAnyTimeAndGoneOverAgain(t *testing.T) {
	for _, text := range []string{"", "f", "k", "fkfkf", "fffff", strings.Repeat("l", 63) + "ff" + strings.Repeat("g", 70) + "f"} {
		s := parsed(t, text)
		l, whole := s.All(api.StateFree), such(text, api.StateFree)
		for many := 1; many <= len(whole)+1; many++ {
			var got []int
			l(func(at int) bool {
				if len(got) == many {
					t.Fatalf("%s: told on after it was left behind %d", text, many)
				}
				got = append(got, at)
				return len(got) < many
			})
			if !slices.Equal(got, whole[:min(many, len(whole))]) {
				t.Errorf("%s: left behind %d: %v", text, many, got)
			}
		}
		wantAll(t, l, whole...)
		for range l {
			wantAll(t, l, whole...)
		}
		check(t, s, text)
	}
}

// P14.2: each byte at each place, and no other text
func TestParse(t *testing.T) {
	for _, text := range texts() {
		check(t, parsed(t, text), text)
	}
	for _, many := range []int{1, 2, 5, 256} {
		for at := range many {
			for b := range 256 {
				text := []byte(strings.Repeat("k", many))
				text[at] = byte(b)
				s, e := state.Parse(string(text))
				if strings.IndexByte(letters, byte(b)) >= 0 {
					if e != api.OK || s.Text() != string(text) {
						t.Fatalf("Parse(%q): %v", text, e)
					}
					continue
				}
				if s != nil || e != api.ErrSheet {
					t.Fatalf("Parse(%q): %v %v, want ErrSheet", text, s, e)
				}
			}
		}
	}
}

// P14.2
func TestTextsOfNoSheet(t *testing.T) {
	l := []string{"F", "free", "held", "0", "1234", " ", "f ", " f", "f f", "f\n", "\x00", "f\x00", "\xff", "é", "ƒ", "kлh", "ｆ", "f,k", "-f"}
	for _, many := range []int{257, 258, 512, 513, 65535, 65536, 65537, 1 << 20} {
		for _, b := range letters + "x" {
			l = append(l, strings.Repeat(string(b), many))
		}
		l = append(l, "x"+strings.Repeat("f", many-1), strings.Repeat("f", many-1)+"x")
	}
	for _, text := range l {
		if s, e := state.Parse(text); s != nil || e != api.ErrSheet {
			t.Errorf("Parse(%.20q of %d): %v %v, want ErrSheet", text, len(text), s, e)
		}
	}
}

// P14.2
func TestCopyGoesOnApart(t *testing.T) {
	for _, many := range lengths {
		text := strings.Repeat("f", many)
		s := made(t, many)
		for at := range many {
			c := s.Copy()
			if c == nil || c == s || !state.Same(s, c) || !state.Same(c, s) {
				t.Fatalf("of %s: Copy %v", text, c)
			}
			check(t, c, text)
			wantMove(t, s, at, api.StateKept, api.StateFree, api.OK)
			check(t, c, text)
			was := text
			text = changed(text, at, api.StateKept)
			check(t, s, text)
			if state.Same(s, c) {
				t.Fatalf("%s is the same as %s", text, was)
			}
			wantMove(t, c, at, api.StateKept, api.StateFree, api.OK)
			wantMove(t, c, at, api.StateLive, api.StateKept, api.OK)
			check(t, s, text)
			check(t, c, changed(text, at, api.StateLive))
		}
	}
}

// P14.2
func TestSame(t *testing.T) {
	var l []string
	for _, text := range texts() {
		if len(text) < 4 || len(text) > 250 {
			l = append(l, text)
		}
	}
	for _, x := range l {
		a := parsed(t, x)
		if !state.Same(a, a) || !state.Same(a, a.Copy()) {
			t.Errorf("%s is not as itself", x)
		}
		for _, y := range l {
			if state.Same(a, parsed(t, y)) != (x == y) {
				t.Errorf("Same(%s, %s): %v", x, y, x != y)
			}
		}
	}
}

// P14.2: what a slot was does not count
func TestSameByOtherWays(t *testing.T) {
	a, b := parsed(t, "hk"), parsed(t, "fl")
	wantMove(t, a, 0, api.StateFree, api.StateHeld, api.OK)
	wantMove(t, b, 1, api.StateHeld, api.StateLive, api.OK)
	if state.Same(a, b) {
		t.Error("fk is the same as fh")
	}
	wantMove(t, b, 1, api.StateFree, api.StateHeld, api.OK)
	wantMove(t, b, 1, api.StateKept, api.StateFree, api.OK)
	if !state.Same(a, b) {
		t.Error("fk is not the same as fk")
	}
}

// P14.3
func TestCountsAreAllSlots(t *testing.T) {
	for _, text := range texts() {
		s := parsed(t, text)
		sum, told := 0, make([]bool, len(text))
		for _, x := range all {
			sum += s.Count(x)
			for at := range s.All(x) {
				if told[at] {
					t.Fatalf("%s: %d told twice", text, at)
				}
				told[at] = true
			}
		}
		if sum != s.Len() || slices.Contains(told, false) {
			t.Fatalf("%s: counts are together %d", text, sum)
		}
	}
}

// P14.3: all ways of some moves of one slot
func TestWaysOfASlot(t *testing.T) {
	var follow func(s *state.Sheet, way string)
	follow = func(s *state.Sheet, way string) {
		checkWay(t, way)
		for _, to := range all {
			c := s.Copy()
			if _, e := c.Move(0, to); e == api.OK && len(way) < 9 {
				follow(c, way+c.Text())
			} else if e != api.OK && !state.Same(c, s) {
				t.Fatalf("behind %s, %d is refused, but changes", way, to)
			}
		}
	}
	for _, from := range letters {
		follow(parsed(t, string(from)), string(from))
	}
}

// checkWay holds the states that a slot was, one behind the other, against what follows of the chapter.
func checkWay(t *testing.T, way string) {
	t.Helper()
	for i := 1; i < len(way); i++ {
		before := way[:i]
		if way[i-1] == 'g' {
			t.Fatalf("%s: gone, and something else", way)
		}
		if from := strings.LastIndexByte(before, 'f'); way[i] == 'l' && from >= 0 && strings.IndexByte(before[from:], 'k') < 0 {
			t.Fatalf("%s: from free live, never kept", way)
		}
		if from := strings.LastIndexByte(before, 'l'); way[i] == 'f' && from >= 0 && strings.IndexByte(before[from:], 'h') < 0 {
			t.Fatalf("%s: from live free, never held", way)
		}
	}
}

// P14.3
func TestGoneStays(t *testing.T) {
	for _, many := range lengths[1:] {
		text := strings.Repeat("g", many)
		s := parsed(t, text)
		for at := range many {
			for _, to := range all {
				wantMove(t, s, at, to, 0, api.ErrMove)
			}
		}
		check(t, s, text)
	}
}

// P14.1 to P14.3: calls in any order, held against texts
func TestCallsInAnyOrder(t *testing.T) {
	r := rand.New(rand.NewSource(41))
	for _, many := range lengths {
		s, text := made(t, many), strings.Repeat("f", many)
		for turn := range 4000 {
			at, to := r.Intn(many+2)-1, api.State(r.Intn(7)-1)
			switch {
			case to < 0 || int(to) >= len(letters):
				wantMove(t, s, at, to, 0, api.ErrArg)
			case at < 0 || at >= many:
				wantMove(t, s, at, to, 0, api.ErrRange)
			case strings.IndexByte(may[text[at]], letters[to]) < 0:
				wantMove(t, s, at, to, 0, api.ErrMove)
			case to == api.StateGone && r.Intn(20) > 0:
				// Seldom, or soon nothing else would be left.
			default:
				wantMove(t, s, at, to, stateOf(text[at]), api.OK)
				text = changed(text, at, to)
			}
			if turn%100 == 0 {
				check(t, s, text)
				if o := parsed(t, s.Text()); !state.Same(s, o) {
					t.Fatalf("%s: Parse of Text is not the sheet", text)
				}
				s = s.Copy()
			}
		}
		check(t, s, text)
	}
}
