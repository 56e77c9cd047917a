package bits_test

import (
	"iter"
	"math"
	"math/rand"
	"slices"
	"strings"
	"testing"

	"pinfold/api"
	"pinfold/bits"
)

const most = 4096

// lengths are numbers of places: none, few, those beside whole words, the most.
var lengths = []int{0, 1, 2, 3, 5, 7, 8, 9, 31, 32, 33, 63, 64, 65, 85, 100, 127, 128, 129, 191, 192, 193, 1000, 4031, 4032, 4033, 4095, 4096}

// noLengths are numbers of places that may not be: those beside, those that a narrower kind would cut to one that may.
var noLengths = []int{4097, 4098, 8192, 65536, 65537, 1 << 31, 1 << 32, 1<<32 + 5, math.MaxInt32, math.MaxInt - 1, math.MaxInt, -1, -2, -5, -64, -4096, -4097, -1 << 31, -1 << 32, 5 - 1<<32, math.MinInt32, math.MinInt, math.MinInt + 1, math.MinInt + 5}

// outside are places that there are not, of many.
func outside(many int) []int {
	return []int{many, many + 1, many + 63, many + 64, many + 256, many + 65536, 4096, 1 << 31, 1 << 32, 1<<32 + many/2, 1<<62 + 1, math.MaxInt - 1, math.MaxInt, -1, -2, -63, -64, -65, -128, -256, -4096, -1 << 32, many/2 - 1<<32, math.MinInt, math.MinInt + 1, math.MinInt + many/2}
}

func made(t *testing.T, many int) *bits.Marks {
	t.Helper()
	m, e := bits.New(many)
	if m == nil || e != api.OK {
		t.Fatalf("New(%d): %v %v", many, m, e)
	}
	return m
}

func parsed(t *testing.T, s string) *bits.Marks {
	t.Helper()
	m, e := bits.Parse(s)
	if m == nil || e != api.OK {
		t.Fatalf("Parse(%d bytes): %v %v", len(s), m, e)
	}
	return m
}

// texts are of all patterns of few places, and of some of each length.
func texts() []string {
	var l []string
	for many := range 9 {
		for n := range 1 << many {
			b := make([]byte, many)
			for at := range b {
				b[at] = '0' + byte(n>>at&1)
			}
			l = append(l, string(b))
		}
	}
	r := rand.New(rand.NewSource(4))
	for _, many := range lengths {
		l = append(l, strings.Repeat("0", many), strings.Repeat("1", many))
		for _, each := range []int{2, 10, 200} {
			b := make([]byte, many)
			for at := range b {
				b[at] = '0'
				if r.Intn(each) == 0 {
					b[at] = '1'
				}
			}
			l = append(l, string(b))
		}
		if many > 1 {
			l = append(l, "1"+strings.Repeat("0", many-1), strings.Repeat("0", many-1)+"1", "0"+strings.Repeat("1", many-1), strings.Repeat("1", many-1)+"0")
		}
	}
	return l
}

// such are the places of a text that are marked, or that are not.
func such(s string, is bool) []int {
	var l []int
	for at := range len(s) {
		if s[at] == '1' == is {
			l = append(l, at)
		}
	}
	return l
}

func gone(all iter.Seq[int]) []int {
	var l []int
	for at := range all {
		l = append(l, at)
	}
	return l
}

// changed is a text with one place that is such.
func changed(s string, at int, is bool) string {
	b := []byte(s)
	b[at] = '0'
	if is {
		b[at] = '1'
	}
	return string(b)
}

// check holds all that marks tell against their text.
func check(t *testing.T, m *bits.Marks, s string) {
	t.Helper()
	marked := such(s, true)
	if m.Text() != s || m.Len() != len(s) || m.Count() != len(marked) {
		t.Fatalf("Text %s, Len %d, Count %d, want %s, %d", m.Text(), m.Len(), m.Count(), s, len(marked))
	}
	if got := gone(m.All()); !slices.Equal(got, marked) {
		t.Fatalf("%s: All %v", s, got)
	}
	for at := range len(s) {
		if m.Has(at) != (s[at] == '1') {
			t.Fatalf("%s: Has(%d) %v", s, at, m.Has(at))
		}
	}
	for _, at := range outside(len(s)) {
		if m.Has(at) {
			t.Fatalf("%s: Has(%d)", s, at)
		}
	}
}

// P4.1, the examples
func TestExamples(t *testing.T) {
	m := made(t, 5)
	a, e := m.Set(1, true)
	b, f := m.Set(4, true)
	if a || b || e != api.OK || f != api.OK || m.Text() != "01001" || m.Count() != 2 {
		t.Errorf("%v %v %v %v %s %d", a, e, b, f, m.Text(), m.Count())
	}
	if at, is := m.Nth(1, true); at != 4 || !is {
		t.Errorf("Nth(1, true): %d %v", at, is)
	}
	if at, is := m.Nth(2, false); at != 3 || !is {
		t.Errorf("Nth(2, false): %d %v", at, is)
	}
	if at, is := m.Next(2, true); at != 4 || !is {
		t.Errorf("Next(2, true): %d %v", at, is)
	}
	if was, e := m.Set(1, true); !was || e != api.OK {
		t.Errorf("Set(1, true): %v %v", was, e)
	}
	if was, e := m.Set(5, true); was || e != api.ErrRange {
		t.Errorf("Set(5, true): %v %v", was, e)
	}
	if at, is := m.Nth(2, true); at != 0 || is {
		t.Errorf("Nth(2, true): %d %v", at, is)
	}
	if x, e := bits.Parse("012"); x != nil || e != api.ErrBits {
		t.Errorf("Parse(012): %v %v", x, e)
	}
}

// P4.1
func TestNew(t *testing.T) {
	for _, many := range lengths {
		check(t, made(t, many), strings.Repeat("0", many))
	}
	for _, many := range noLengths {
		if m, e := bits.New(many); m != nil || e != api.ErrArg {
			t.Errorf("New(%d): %v %v, want ErrArg", many, m, e)
		}
	}
}

// P4.1
func TestNewOnesAreApart(t *testing.T) {
	a, b := made(t, 70), made(t, 70)
	a.Set(3, true)
	a.Set(69, true)
	check(t, b, strings.Repeat("0", 70))
	if bits.Same(a, b) {
		t.Error("Same of marks that are not")
	}
}

// P4.1
func TestSetEachPlace(t *testing.T) {
	for _, many := range lengths {
		m := made(t, many)
		s := strings.Repeat("0", many)
		for _, is := range []bool{true, false} {
			for at := range many {
				if was, e := m.Set(at, is); was == is || e != api.OK {
					t.Fatalf("of %d, Set(%d, %v): %v %v", many, at, is, was, e)
				}
				if was, e := m.Set(at, is); was != is || e != api.OK {
					t.Fatalf("of %d, Set(%d, %v) again: %v %v", many, at, is, was, e)
				}
				s = changed(s, at, is)
				if many < 200 {
					check(t, m, s)
				}
			}
			check(t, m, s)
		}
	}
}

// P4.1
func TestSetInAnyOrder(t *testing.T) {
	r := rand.New(rand.NewSource(1))
	for _, many := range []int{1, 5, 64, 65, 130, 4096} {
		m := made(t, many)
		want := make([]bool, many)
		for range 3000 {
			at, is := r.Intn(many), r.Intn(2) == 0
			if was, e := m.Set(at, is); was != want[at] || e != api.OK {
				t.Fatalf("of %d, Set(%d, %v): %v %v", many, at, is, was, e)
			}
			want[at] = is
			if m.Has(at) != is {
				t.Fatalf("of %d, Has(%d) is not %v", many, at, is)
			}
		}
		for at, is := range want {
			if m.Has(at) != is {
				t.Fatalf("of %d, Has(%d) is not %v", many, at, is)
			}
		}
	}
}

// P4.1
func TestSetRefusesPlacesThatThereAreNot(t *testing.T) {
	for _, s := range texts() {
		m := parsed(t, s)
		for _, at := range outside(len(s)) {
			for _, is := range []bool{true, false} {
				if was, e := m.Set(at, is); was || e != api.ErrRange {
					t.Fatalf("of %d, Set(%d, %v): %v %v, want ErrRange", len(s), at, is, was, e)
				}
			}
		}
		check(t, m, s)
	}
}

// P4.1, P4.2, P4.3; Rules: marks that are not there; a zero object is as a nil one
func TestNoMarks(t *testing.T) {
	refused, _ := bits.New(-1)
	spoilt, _ := bits.Parse("x")
	none := []*bits.Marks{nil, new(bits.Marks), {}, refused, spoilt, (*bits.Marks)(nil).Copy(), new(bits.Marks).Copy()}
	for i, m := range none {
		for _, at := range []int{0, 1, 64, 4095, 4096, math.MaxInt, -1, math.MinInt} {
			for _, is := range []bool{true, false} {
				if was, e := m.Set(at, is); was || e != api.ErrNil {
					t.Errorf("%d: Set(%d, %v): %v %v, want ErrNil", i, at, is, was, e)
				}
				if x, b := m.Nth(at, is); x != 0 || b {
					t.Errorf("%d: Nth(%d, %v): %d %v", i, at, is, x, b)
				}
				if x, b := m.Next(at, is); x != 0 || b {
					t.Errorf("%d: Next(%d, %v): %d %v", i, at, is, x, b)
				}
			}
			if m.Has(at) {
				t.Errorf("%d: Has(%d)", i, at)
			}
		}
		if m.Len() != 0 || m.Count() != 0 || m.Text() != "" || m.Copy() != nil || len(gone(m.All())) != 0 {
			t.Errorf("%d: Len %d, Count %d, Text %q, Copy %v, All %v", i, m.Len(), m.Count(), m.Text(), m.Copy(), gone(m.All()))
		}
		for k, o := range none {
			if !bits.Same(m, o) {
				t.Errorf("Same(%d, %d): false", i, k)
			}
		}
		for _, many := range []int{0, 1, 5} {
			if o := made(t, many); bits.Same(m, o) || bits.Same(o, m) {
				t.Errorf("%d is the same as %d places", i, many)
			}
		}
	}
}

// P4.1, P4.2, P4.3: marks of no places are there
func TestMarksOfNoPlaces(t *testing.T) {
	for i, m := range []*bits.Marks{made(t, 0), parsed(t, ""), made(t, 0).Copy()} {
		if was, e := m.Set(0, true); was || e != api.ErrRange {
			t.Errorf("%d: Set: %v %v, want ErrRange", i, was, e)
		}
		check(t, m, "")
		if m.Copy() == nil || !bits.Same(m, made(t, 0)) || bits.Same(m, nil) || bits.Same(m, made(t, 1)) {
			t.Errorf("%d: Copy %v, Same %v %v %v", i, m.Copy(), bits.Same(m, made(t, 0)), bits.Same(m, nil), bits.Same(m, made(t, 1)))
		}
	}
}

// P4.2
func TestLenAndCount(t *testing.T) {
	for _, s := range texts() {
		m := parsed(t, s)
		if m.Len() != len(s) || m.Count() != strings.Count(s, "1") {
			t.Errorf("%s: Len %d, Count %d", s, m.Len(), m.Count())
		}
	}
}

// someOf are few of the numbers below a bound, if it is great, the edges among them.
func someOf(bound int) []int {
	var l []int
	for n := range bound {
		if bound < 200 || n < 3 || n%61 == 0 || n%64 < 1 || n%64 > 62 || n > bound-3 {
			l = append(l, n)
		}
	}
	return l
}

// P4.2
func TestNth(t *testing.T) {
	for _, s := range texts() {
		m := parsed(t, s)
		for _, is := range []bool{true, false} {
			l := such(s, is)
			for _, k := range someOf(len(l)) {
				if at, b := m.Nth(k, is); at != l[k] || !b {
					t.Fatalf("%s: Nth(%d, %v): %d %v, want %d", s, k, is, at, b, l[k])
				}
			}
			for _, k := range outside(len(l)) {
				if k >= 0 && k < len(l) {
					continue
				}
				if at, b := m.Nth(k, is); at != 0 || b {
					t.Fatalf("%s: Nth(%d, %v): %d %v, want none", s, k, is, at, b)
				}
			}
		}
		check(t, m, s)
	}
}

// next is the least of a rising list that is not below a number.
func next(l []int, from int) (int, bool) {
	for _, at := range l {
		if at >= from {
			return at, true
		}
	}
	return 0, false
}

// P4.2
func TestNext(t *testing.T) {
	for _, s := range texts() {
		m := parsed(t, s)
		for _, is := range []bool{true, false} {
			l := such(s, is)
			for _, from := range slices.Concat(someOf(len(s)), outside(len(s))) {
				want, such := next(l, from)
				if at, b := m.Next(from, is); at != want || b != such {
					t.Fatalf("%s: Next(%d, %v): %d %v, want %d %v", s, from, is, at, b, want, such)
				}
			}
		}
		check(t, m, s)
	}
}

// P4.2
func TestNextGoesOverAll(t *testing.T) {
	for _, s := range texts() {
		m := parsed(t, s)
		for _, is := range []bool{true, false} {
			var l []int
			for at, b := m.Next(-7, is); b; at, b = m.Next(at+1, is) {
				l = append(l, at)
			}
			if !slices.Equal(l, such(s, is)) {
				t.Fatalf("%s: those that are %v: %v", s, is, l)
			}
		}
	}
}

// P4.2
func TestAllIsAsItWasWhenCalled(t *testing.T) {
	m := parsed(t, "0110"+strings.Repeat("0", 70)+"1")
	all := m.All()
	m.Set(0, true)
	m.Set(1, false)
	m.Set(74, false)
	m.Set(70, true)
	for range 2 {
		if got := gone(all); !slices.Equal(got, []int{1, 2, 74}) {
			t.Errorf("All of before: %v", got)
		}
	}
	if got := gone(m.All()); !slices.Equal(got, []int{0, 2, 70}) {
		t.Errorf("All: %v", got)
	}
}

// P4.2
func TestAllWhileItIsChanged(t *testing.T) {
	for _, is := range []bool{true, false} {
		m := parsed(t, strings.Repeat("01", 70))
		var got []int
		for at := range m.All() {
			got = append(got, at)
			for to := range 140 {
				m.Set(to, is)
			}
		}
		if !slices.Equal(got, such(strings.Repeat("01", 70), true)) {
			t.Errorf("All while each became %v: %v", is, got)
		}
		if m.Count() != map[bool]int{true: 140, false: 0}[is] {
			t.Errorf("Count: %d", m.Count())
		}
	}
}

// P4.2
func TestAllLeftAtAnyTimeAndGoneOverAgain(t *testing.T) {
	for _, s := range []string{"", "0", "1", "01001", "11111", strings.Repeat("0", 63) + "11" + strings.Repeat("0", 70) + "1"} {
		m := parsed(t, s)
		all, whole := m.All(), such(s, true)
		for many := range len(whole) + 1 {
			var got []int
			all(func(at int) bool {
				if len(got) > many {
					t.Fatalf("%s: told on after it was left at %d", s, many)
				}
				got = append(got, at)
				return len(got) <= many
			})
			if !slices.Equal(got, whole[:min(many+1, len(whole))]) {
				t.Errorf("%s: left behind %d: %v", s, many, got)
			}
		}
		var got []int
		for a := range all {
			if inner := gone(all); !slices.Equal(inner, whole) {
				t.Fatalf("%s: one within the other: %v", s, inner)
			}
			got = append(got, a)
		}
		if !slices.Equal(got, whole) {
			t.Errorf("%s: gone over again: %v", s, got)
		}
		check(t, m, s)
	}
}

// P4.3, P4.4
func TestTextAndParse(t *testing.T) {
	for _, s := range texts() {
		m := parsed(t, s)
		check(t, m, s)
		again := parsed(t, m.Text())
		if !bits.Same(m, again) {
			t.Fatalf("%s: Parse of Text are others", s)
		}
		check(t, again, s)
	}
}

// P4.3
func TestParseOnesAreApart(t *testing.T) {
	a, b := parsed(t, "0101"), parsed(t, "0101")
	a.Set(0, true)
	check(t, a, "1101")
	check(t, b, "0101")
}

// P4.3
func TestParseRefusesOtherBytes(t *testing.T) {
	for x := range 256 {
		if x == '0' || x == '1' {
			continue
		}
		for _, s := range []string{string([]byte{byte(x)}), "0" + string([]byte{byte(x)}), string([]byte{byte(x)}) + "1", "01" + string([]byte{byte(x)}) + "10", strings.Repeat("1", 100) + string([]byte{byte(x)}), strings.Repeat("0", 4095) + string([]byte{byte(x)})} {
			if m, e := bits.Parse(s); m != nil || e != api.ErrBits {
				t.Errorf("Parse(%q): %v %v, want ErrBits", s, m, e)
			}
		}
	}
	for _, s := range []string{"012", " 01", "01 ", "0 1", "01\n", "-1", "+1", "0x1", "0b1", "٠١", "０１", "\x00", "\x01", "true", "2"} {
		if m, e := bits.Parse(s); m != nil || e != api.ErrBits {
			t.Errorf("Parse(%q): %v %v, want ErrBits", s, m, e)
		}
	}
}

// P4.3
func TestParseRefusesLongTexts(t *testing.T) {
	for _, many := range []int{4097, 4098, 5000, 8192, 65536, 65537, 1 << 20} {
		for _, s := range []string{strings.Repeat("0", many), strings.Repeat("1", many), strings.Repeat("x", many)} {
			if m, e := bits.Parse(s); m != nil || e != api.ErrBits {
				t.Errorf("Parse of %d bytes %s..: %v %v, want ErrBits", many, s[:1], m, e)
			}
		}
	}
	check(t, parsed(t, strings.Repeat("1", most)), strings.Repeat("1", most))
}

// P4.3
func TestCopyGoesOnApart(t *testing.T) {
	for _, s := range texts() {
		m := parsed(t, s)
		c := m.Copy()
		if c == nil || c == m || !bits.Same(m, c) {
			t.Fatalf("%s: Copy %v", s, c)
		}
		check(t, c, s)
		if len(s) == 0 {
			continue
		}
		first, last := s[0] == '1', s[len(s)-1] == '1'
		if was, e := m.Set(0, !first); was != first || e != api.OK {
			t.Fatalf("%s: Set: %v %v", s, was, e)
		}
		check(t, c, s)
		m.Set(0, first)
		if was, e := c.Set(len(s)-1, !last); was != last || e != api.OK {
			t.Fatalf("%s: Set of the copy: %v %v", s, was, e)
		}
		check(t, m, s)
		check(t, c, changed(s, len(s)-1, !last))
	}
}

// P4.3
func TestSame(t *testing.T) {
	var l []string
	for _, s := range texts() {
		if len(s) < 6 || len(s) > 62 && len(s) < 66 {
			l = append(l, s)
		}
	}
	for _, a := range l {
		x := parsed(t, a)
		if !bits.Same(x, x) {
			t.Errorf("%s is not as itself", a)
		}
		for _, b := range l {
			if bits.Same(x, parsed(t, b)) != (a == b) {
				t.Errorf("Same(%s, %s): %v", a, b, a != b)
			}
		}
	}
}

// P4.3: what was done on the way there is not to be seen
func TestSameWhateverWasSetBefore(t *testing.T) {
	for _, many := range lengths {
		a, b := made(t, many), made(t, many)
		for at := range many {
			a.Set(at, true)
		}
		for at := range many {
			a.Set(at, at%3 == 0)
			b.Set(many-1-at, (many-1-at)%3 == 0)
		}
		a.Set(many, true)
		a.Nth(0, false)
		a.Next(0, false)
		if !bits.Same(a, b) || a.Text() != b.Text() {
			t.Errorf("of %d: %s is not as %s", many, a.Text(), b.Text())
		}
		if many > 0 {
			b.Set(many-1, !b.Has(many-1))
			if bits.Same(a, b) || bits.Same(b, a) {
				t.Errorf("of %d: the same, though the last place differs", many)
			}
		}
	}
}

// P4.4
func TestNthOfAsManyAsAreAhead(t *testing.T) {
	for _, s := range texts() {
		m := parsed(t, s)
		for _, at := range someOf(len(s)) {
			is := m.Has(at)
			ahead := 0
			for x := range at {
				if m.Has(x) == is {
					ahead++
				}
			}
			if got, b := m.Nth(ahead, is); got != at || !b {
				t.Fatalf("%s: Nth(%d, %v): %d %v, want %d", s, ahead, is, got, b, at)
			}
		}
	}
}

// P4.4
func TestMarkedAndOthersAreAll(t *testing.T) {
	for _, s := range texts() {
		m := parsed(t, s)
		seen := make([]int, len(s))
		many := 0
		for _, is := range []bool{true, false} {
			for at, b := m.Next(0, is); b; at, b = m.Next(at+1, is) {
				seen[at]++
				many++
			}
		}
		for at, n := range seen {
			if n != 1 {
				t.Fatalf("%s: place %d is told %d times", s, at, n)
			}
		}
		free := many - m.Count()
		_, last := m.Nth(free-1, false)
		_, past := m.Nth(free, false)
		if many != m.Len() || last != (free > 0) || past {
			t.Fatalf("%s: %d places, %d not marked, Nth %v %v", s, many, free, last, past)
		}
	}
}

// P4.4
func TestSetBackLeavesTheMarks(t *testing.T) {
	for _, s := range texts() {
		m := parsed(t, s)
		for _, at := range someOf(len(s)) {
			for _, is := range []bool{true, false} {
				was, e := m.Set(at, is)
				if e != api.OK || was != (s[at] == '1') || m.Has(at) != is {
					t.Fatalf("%s: Set(%d, %v): %v %v", s, at, is, was, e)
				}
				if now, e := m.Set(at, was); now != is || e != api.OK {
					t.Fatalf("%s: Set(%d, %v) back: %v %v", s, at, was, now, e)
				}
			}
		}
		check(t, m, s)
		if !bits.Same(m, parsed(t, s)) {
			t.Fatalf("%s: not the same", s)
		}
	}
}
