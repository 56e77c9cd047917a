package word

// widths are all that there are.
var widths = [4]width{1, 2, 4, 8}

// width is how many bytes a number has.
type width int

// known tells whether there is such a width.
func (w width) known() bool {
	for _, x := range widths {
		if w == x {
			return true
		}
	}
	return false
}

// top is the greatest number of a known width. The shift is down, as 1 moved up by 64 would be lost.
func (w width) top() uint64 { return ^uint64(0) >> (64 - 8*w) }

// number is a number under way, and the width that it shall have.
type number struct {
	width
	value uint64
}

func numberOf(n uint64, many int) number { return number{width(many), n} }

// fits tells whether a known width is wide enough.
func (x number) fits() bool { return x.value <= x.top() }

func (x number) bytes() []byte {
	b := make([]byte, x.width)
	for i := range b {
		b[i] = byte(x.value >> (8 * i))
	}
	return b
}
