package round_test

import (
	"math"
	"math/big"
	"slices"
	"testing"

	"pinfold/api"
	"pinfold/round"
)

const top = math.MaxUint64

// numbers are 0, all powers, their neighbours, some in between, and the greatest ones.
func numbers() []uint64 {
	l := []uint64{0, 7, 10, 100, 1000003, 0x0102030405060708, 0xf1e2d3c4b5a69788, 1<<32 - 5, top / 3, top/3 + 1, top / 2, top - 2, top - 1, top}
	for bit := range 64 {
		n := uint64(1) << bit
		l = append(l, n-1, n, n+1)
	}
	slices.Sort(l)
	return slices.Compact(l)
}

func exact(n uint64) *big.Int { return new(big.Int).SetUint64(n) }

// told is the answer where something was worked out exactly.
func told(n *big.Int) (uint64, api.Errno) {
	if !n.IsUint64() {
		return 0, api.ErrOver
	}
	return n.Uint64(), api.OK
}

func sum(l []uint64) (uint64, api.Errno) {
	all := big.NewInt(0)
	for _, n := range l {
		all.Add(all, exact(n))
	}
	return told(all)
}

func product(l []uint64) (uint64, api.Errno) {
	all := big.NewInt(1)
	for _, n := range l {
		all.Mul(all, exact(n))
	}
	return told(all)
}

// orders are all orders of a list.
func orders(l []uint64) [][]uint64 {
	if len(l) == 0 {
		return [][]uint64{nil}
	}
	var all [][]uint64
	for i, n := range l {
		for _, rest := range orders(slices.Delete(slices.Clone(l), i, i+1)) {
			all = append(all, append([]uint64{n}, rest...))
		}
	}
	return all
}

// P2.1
func TestAdd(t *testing.T) {
	for _, c := range []struct {
		l    []uint64
		want uint64
		e    api.Errno
	}{
		{nil, 0, api.OK}, {[]uint64{}, 0, api.OK}, {[]uint64{0}, 0, api.OK}, {[]uint64{7}, 7, api.OK}, {[]uint64{top}, top, api.OK},
		{[]uint64{1, 2, 3, 4}, 10, api.OK}, {[]uint64{top, 0, 0}, top, api.OK}, {[]uint64{0, 0, top}, top, api.OK},
		{[]uint64{top - 1, 1}, top, api.OK}, {[]uint64{top, 1}, 0, api.ErrOver}, {[]uint64{1 << 63, 1 << 63}, 0, api.ErrOver},
		{[]uint64{1 << 63, 1<<63 - 1}, top, api.OK}, {[]uint64{1 << 63, 1<<63 - 1, 1}, 0, api.ErrOver},
		{[]uint64{top, 1, 5}, 0, api.ErrOver}, {[]uint64{top, 1, top, 1}, 0, api.ErrOver}, {[]uint64{top, top, top}, 0, api.ErrOver},
		{[]uint64{1 << 63, 1 << 63, 0}, 0, api.ErrOver}, {[]uint64{1 << 63, 1 << 63, 1 << 63, 1 << 63}, 0, api.ErrOver},
	} {
		if n, e := round.Add(c.l...); n != c.want || e != c.e {
			t.Errorf("Add(%d): %d %v, want %d %v", c.l, n, e, c.want, c.e)
		}
	}
}

// P2.1
func TestMul(t *testing.T) {
	for _, c := range []struct {
		l    []uint64
		want uint64
		e    api.Errno
	}{
		{nil, 1, api.OK}, {[]uint64{}, 1, api.OK}, {[]uint64{0}, 0, api.OK}, {[]uint64{1}, 1, api.OK}, {[]uint64{top}, top, api.OK},
		{[]uint64{2, 3, 4}, 24, api.OK}, {[]uint64{top, 1, 1}, top, api.OK}, {[]uint64{1, 1, top}, top, api.OK},
		{[]uint64{1 << 32, 1 << 31}, 1 << 63, api.OK}, {[]uint64{1 << 32, 1 << 32}, 0, api.ErrOver},
		{[]uint64{1<<32 - 1, 1<<32 + 1}, top, api.OK}, {[]uint64{3, top / 3}, top, api.OK}, {[]uint64{3, top/3 + 1}, 0, api.ErrOver},
		{[]uint64{top, 2}, 0, api.ErrOver}, {[]uint64{top, top}, 0, api.ErrOver}, {[]uint64{top, top, top, top}, 0, api.ErrOver},
		{[]uint64{1 << 32, 1 << 32, 1 << 32, 1 << 32}, 0, api.ErrOver}, {[]uint64{1 << 63, 2, 1 << 63, 2}, 0, api.ErrOver},
		{[]uint64{1 << 32, 1 << 32, 1}, 0, api.ErrOver}, {[]uint64{1 << 32, 1 << 32, 3}, 0, api.ErrOver},
	} {
		if n, e := round.Mul(c.l...); n != c.want || e != c.e {
			t.Errorf("Mul(%d): %d %v, want %d %v", c.l, n, e, c.want, c.e)
		}
	}
}

// P2.1
func TestMulOfNought(t *testing.T) {
	for _, l := range [][]uint64{
		{1 << 63, 2, 0}, {1 << 63, 0, 2}, {0, 1 << 63, 2}, {top, top, 0}, {0, top, top}, {top, 0, top}, {top, top, top, top, 0},
		{top, top, 0, top, top}, {0, 0}, {0, top}, {top, 0}, {1 << 32, 1 << 32, 1 << 32, 1 << 32, 0}, {0, 1}, {5, 0, 5},
	} {
		if n, e := round.Mul(l...); n != 0 || e != api.OK {
			t.Errorf("Mul(%d): %d %v, want 0", l, n, e)
		}
	}
}

// P2.1
func TestAddAndMulAreExact(t *testing.T) {
	for _, a := range numbers() {
		for _, b := range numbers() {
			for _, l := range [][]uint64{{a, b}, {a, b, 3}, {1, a, b}, {a, b, b}} {
				want, e := sum(l)
				if n, f := round.Add(l...); n != want || f != e {
					t.Fatalf("Add(%d): %d %v, want %d %v", l, n, f, want, e)
				}
				want, e = product(l)
				if n, f := round.Mul(l...); n != want || f != e {
					t.Fatalf("Mul(%d): %d %v, want %d %v", l, n, f, want, e)
				}
			}
		}
	}
}

// P2.1
func TestAddAndMulOfMany(t *testing.T) {
	ones := slices.Repeat([]uint64{1}, 100000)
	if n, e := round.Add(ones...); n != 100000 || e != api.OK {
		t.Errorf("Add of 100000 ones: %d %v", n, e)
	}
	if n, e := round.Mul(ones...); n != 1 || e != api.OK {
		t.Errorf("Mul of 100000 ones: %d %v", n, e)
	}
	tops := slices.Repeat([]uint64{top}, 100000)
	if n, e := round.Add(tops...); n != 0 || e != api.ErrOver {
		t.Errorf("Add of 100000 greatest ones: %d %v, want ErrOver", n, e)
	}
	if n, e := round.Mul(tops...); n != 0 || e != api.ErrOver {
		t.Errorf("Mul of 100000 greatest ones: %d %v, want ErrOver", n, e)
	}
	for many := range 200 {
		e := api.OK
		want := uint64(1) << many
		if many > 63 {
			want, e = 0, api.ErrOver
		}
		if n, f := round.Mul(slices.Repeat([]uint64{2}, many)...); n != want || f != e {
			t.Errorf("Mul of %d twos: %d %v, want %d %v", many, n, f, want, e)
		}
	}
}

// P2.4
func TestSumsAndProductsDoNotHangOnTheOrder(t *testing.T) {
	for _, l := range [][]uint64{
		{1, 2, 3, 4}, {1 << 63, 2, 0, 5}, {top, 1, 0, 7}, {top, top, 1, 2}, {1 << 32, 1 << 32, 1, 1}, {1 << 32, 1 << 31, 1, 1},
		{top, 0, 0, 0}, {1 << 62, 1 << 62, 1 << 63, 0}, {1 << 62, 1 << 62, 1<<63 - 1, 0}, {1 << 40, 1 << 40, 1 << 40, 0, 1 << 40},
	} {
		wantSum, e := sum(l)
		wantProduct, f := product(l)
		for _, o := range orders(l) {
			if n, g := round.Add(o...); n != wantSum || g != e {
				t.Errorf("Add(%d): %d %v, want %d %v", o, n, g, wantSum, e)
			}
			if n, g := round.Mul(o...); n != wantProduct || g != f {
				t.Errorf("Mul(%d): %d %v, want %d %v", o, n, g, wantProduct, f)
			}
		}
	}
}

// P2.1, rules: what is handed in is not changed.
func TestNothingIsChanged(t *testing.T) {
	l := []uint64{3, 0, 5, top, 8, 9}
	want := slices.Clone(l)
	round.Add(l[:4]...)
	round.Mul(l[:4]...)
	if !slices.Equal(l, want) {
		t.Errorf("changed: %d", l)
	}
}

// P2.2
func TestUpDownMany(t *testing.T) {
	for _, c := range []struct {
		n, step, up uint64
		e           api.Errno
		down, many  uint64
	}{
		{0, 1, 0, api.OK, 0, 0}, {0, 16, 0, api.OK, 0, 0}, {0, top, 0, api.OK, 0, 0}, {1, 1, 1, api.OK, 1, 1},
		{1, 16, 16, api.OK, 0, 1}, {15, 16, 16, api.OK, 0, 1}, {16, 16, 16, api.OK, 16, 1}, {17, 16, 32, api.OK, 16, 2},
		{32, 16, 32, api.OK, 32, 2}, {10, 3, 12, api.OK, 9, 4}, {9, 3, 9, api.OK, 9, 3}, {1, top, top, api.OK, 0, 1},
		{300, 256, 512, api.OK, 256, 2}, {100, 7, 105, api.OK, 98, 15},
		{top, 1, top, api.OK, top, top}, {top, top, top, api.OK, top, 1}, {top - 1, top, top, api.OK, 0, 1},
		{top, 3, top, api.OK, top, top / 3}, {top - 1, 3, top, api.OK, top - 3, top / 3},
		{top, 2, 0, api.ErrOver, top - 1, 1 << 63}, {top - 1, 2, top - 1, api.OK, top - 1, 1<<63 - 1},
		{top, 1 << 63, 0, api.ErrOver, 1 << 63, 2}, {1 << 63, 1 << 63, 1 << 63, api.OK, 1 << 63, 1}, {1<<63 + 1, 1 << 63, 0, api.ErrOver, 1 << 63, 2},
		{top, top - 1, 0, api.ErrOver, top - 1, 2}, {1<<63 + 1, 1<<63 + 2, 1<<63 + 2, api.OK, 0, 1},
	} {
		if n, e := round.Up(c.n, c.step); n != c.up || e != c.e {
			t.Errorf("Up(%d, %d): %d %v, want %d %v", c.n, c.step, n, e, c.up, c.e)
		}
		if n, e := round.Down(c.n, c.step); n != c.down || e != api.OK {
			t.Errorf("Down(%d, %d): %d %v, want %d", c.n, c.step, n, e, c.down)
		}
		if n, e := round.Many(c.n, c.step); n != c.many || e != api.OK {
			t.Errorf("Many(%d, %d): %d %v, want %d", c.n, c.step, n, e, c.many)
		}
	}
}

// P2.2
func TestUpDownManyRefuseNought(t *testing.T) {
	for _, n := range numbers() {
		if m, e := round.Up(n, 0); m != 0 || e != api.ErrArg {
			t.Errorf("Up(%d, 0): %d %v, want ErrArg", n, m, e)
		}
		if m, e := round.Down(n, 0); m != 0 || e != api.ErrArg {
			t.Errorf("Down(%d, 0): %d %v, want ErrArg", n, m, e)
		}
		if m, e := round.Many(n, 0); m != 0 || e != api.ErrArg {
			t.Errorf("Many(%d, 0): %d %v, want ErrArg", n, m, e)
		}
	}
}

// P2.2
func TestUpDownManyAreExact(t *testing.T) {
	one := big.NewInt(1)
	for _, n := range numbers() {
		for _, step := range numbers() {
			if step == 0 {
				continue
			}
			whole, rest := new(big.Int).DivMod(exact(n), exact(step), new(big.Int))
			down := new(big.Int).Mul(whole, exact(step))
			if rest.Sign() != 0 {
				whole.Add(whole, one)
			}
			wantUp, e := told(new(big.Int).Mul(whole, exact(step)))
			if m, f := round.Up(n, step); m != wantUp || f != e {
				t.Fatalf("Up(%d, %d): %d %v, want %d %v", n, step, m, f, wantUp, e)
			}
			if m, f := round.Down(n, step); m != down.Uint64() || f != api.OK {
				t.Fatalf("Down(%d, %d): %d %v, want %d", n, step, m, f, down)
			}
			if m, f := round.Many(n, step); m != whole.Uint64() || f != api.OK {
				t.Fatalf("Many(%d, %d): %d %v, want %d", n, step, m, f, whole)
			}
		}
	}
}

// P2.4
func TestDownIsNotAboveUpNotBelow(t *testing.T) {
	for _, n := range numbers() {
		for _, step := range numbers() {
			if step == 0 {
				continue
			}
			down, e := round.Down(n, step)
			up, f := round.Up(n, step)
			if e != api.OK || down > n || down%step != 0 || n-down >= step {
				t.Fatalf("Down(%d, %d): %d %v", n, step, down, e)
			}
			if f == api.ErrOver {
				if up != 0 || n%step == 0 {
					t.Fatalf("Up(%d, %d): %d %v", n, step, up, f)
				}
				continue
			}
			if f != api.OK || up < n || up%step != 0 || up-n >= step || (up == down) != (n%step == 0) {
				t.Fatalf("Up, Down(%d, %d): %d %v, %d", n, step, up, f, down)
			}
			if many, g := round.Many(n, step); many != up/step || g != api.OK {
				t.Fatalf("Many(%d, %d): %d %v, want %d", n, step, many, g, up/step)
			}
		}
	}
}

// P2.3
func TestPowerAndLog(t *testing.T) {
	powers := map[uint64]int{}
	for bit := range 64 {
		powers[uint64(1)<<bit] = bit
	}
	asked := numbers()
	for n := range uint64(3000) {
		asked = append(asked, n)
	}
	for a := range powers {
		for b := range powers {
			asked = append(asked, a|b, ^(a | b), ^a)
		}
	}
	for _, n := range asked {
		which, is := powers[n]
		e := api.OK
		if !is {
			e = api.ErrArg
		}
		if got := round.Power(n); got != is {
			t.Errorf("Power(%d): %v", n, got)
		}
		if got, f := round.Log(n); got != which || f != e {
			t.Errorf("Log(%d): %d %v, want %d %v", n, got, f, which, e)
		}
	}
}

// P2.3
func TestPowerAndLogOfSome(t *testing.T) {
	for n, want := range map[uint64]int{1: 0, 2: 1, 4: 2, 8: 3, 256: 8, 1 << 32: 32, 1 << 63: 63} {
		if got, e := round.Log(n); got != want || e != api.OK || !round.Power(n) {
			t.Errorf("Log, Power(%d): %d %v %v", n, got, e, round.Power(n))
		}
	}
	for _, n := range []uint64{0, 3, 6, 7, 1<<63 + 1, top} {
		if got, e := round.Log(n); got != 0 || e != api.ErrArg || round.Power(n) {
			t.Errorf("Log, Power(%d): %d %v %v", n, got, e, round.Power(n))
		}
	}
}

// few goes over steps, and gives up where they are more than any of these tests asks for.
func few(t *testing.T, from, until, step uint64) []uint64 {
	t.Helper()
	var l []uint64
	for n := range round.Steps(from, until, step) {
		if len(l) == 10000 {
			t.Fatalf("Steps(%d, %d, %d) goes on and on", from, until, step)
		}
		l = append(l, n)
	}
	return l
}

// P2.3
func TestSteps(t *testing.T) {
	for _, c := range []struct {
		from, until, step uint64
		want              []uint64
	}{
		{1, 8, 3, []uint64{1, 4, 7}}, {1, 7, 3, []uint64{1, 4}}, {0, 5, 1, []uint64{0, 1, 2, 3, 4}}, {0, 1, 1, []uint64{0}},
		{0, 6, 2, []uint64{0, 2, 4}}, {0, 7, 2, []uint64{0, 2, 4, 6}}, {5, 6, 100, []uint64{5}}, {5, 105, 100, []uint64{5}}, {5, 106, 100, []uint64{5, 105}},
		{0, 0, 1, nil}, {5, 5, 1, nil}, {6, 5, 1, nil}, {5, 0, 1, nil}, {top, 0, 1, nil}, {top, top, 1, nil}, {top, top, top, nil},
		{0, 10, 0, nil}, {0, 0, 0, nil}, {10, 0, 0, nil}, {0, top, 0, nil}, {top, top, 0, nil},
		{0, 1, top, []uint64{0}}, {0, top, top, []uint64{0}}, {1, top, top, []uint64{1}}, {0, top, top - 1, []uint64{0, top - 1}},
		{top - 1, top, 1, []uint64{top - 1}}, {top - 1, top, 2, []uint64{top - 1}}, {top - 1, top, top, []uint64{top - 1}},
		{top - 4, top, 3, []uint64{top - 4, top - 1}}, {top - 3, top, 3, []uint64{top - 3}}, {top - 2, top, 5, []uint64{top - 2}},
		{0, top, 1 << 63, []uint64{0, 1 << 63}}, {1 << 63, top, 1 << 63, []uint64{1 << 63}}, {1, top, 1 << 62, []uint64{1, 1<<62 + 1, 1<<63 + 1, 1<<63 + 1<<62 + 1}},
		{1<<63 - 1, 1<<63 + 2, 1, []uint64{1<<63 - 1, 1 << 63, 1<<63 + 1}},
	} {
		if got := few(t, c.from, c.until, c.step); !slices.Equal(got, c.want) {
			t.Errorf("Steps(%d, %d, %d): %d, want %d", c.from, c.until, c.step, got, c.want)
		}
	}
}

// P2.3
func TestStepsOfSmallNumbers(t *testing.T) {
	for from := range uint64(20) {
		for until := range uint64(20) {
			for step := range uint64(20) {
				var want []uint64
				for n := from; n < until && step > 0; n += step {
					want = append(want, n)
				}
				if got := few(t, from, until, step); !slices.Equal(got, want) {
					t.Errorf("Steps(%d, %d, %d): %d, want %d", from, until, step, got, want)
				}
			}
		}
	}
}

// P2.3
func TestStepsLeftAtAnyTimeAndGoneOverAgain(t *testing.T) {
	all := round.Steps(1, 11, 3)
	want := []uint64{1, 4, 7, 10}
	for most := range len(want) + 1 {
		var got []uint64
		all(func(n uint64) bool {
			if len(got) > most {
				t.Fatalf("told on after it was left at %d", most)
			}
			got = append(got, n)
			return len(got) <= most
		})
		if !slices.Equal(got, want[:min(most+1, len(want))]) {
			t.Errorf("left behind %d: %d", most, got)
		}
	}
	pairs := 0
	for a := range all {
		for b := range all {
			if a%3 == 1 && b%3 == 1 {
				pairs++
			}
		}
	}
	if pairs != len(want)*len(want) {
		t.Errorf("one within the other: %d pairs", pairs)
	}
	for n := range round.Steps(0, top, 1) {
		if n == 5 {
			break
		}
	}
}

// P2.4
func TestStepsFromAMultipleAreMultiples(t *testing.T) {
	for _, step := range []uint64{1, 2, 3, 16, 48, 256, 1 << 32, 1<<62 + 1} {
		for _, n := range []uint64{0, 1, 17, 1000, 1 << 40} {
			from, e := round.Down(n, step)
			if e != api.OK {
				t.Fatalf("Down(%d, %d): %v", n, step, e)
			}
			told := 0
			for m := range round.Steps(from, top, step) {
				if back, e := round.Down(m, step); m%step != 0 || back != m || e != api.OK {
					t.Fatalf("Steps(%d, .., %d) tells %d", from, step, m)
				}
				if told++; told == 50 {
					break
				}
			}
			if told == 0 {
				t.Errorf("Steps(%d, .., %d) tells nothing", from, step)
			}
		}
	}
}
