package size

import (
	"pinfold/api"
	"pinfold/round"
)

// slots is what all places of slots are multiples of; a slot can't be told to lie at greater ones.
const slots = 16

// bounded is the product of numbers, if a piece may be as great as that.
func bounded(l ...uint64) (uint64, api.Errno) {
	n, e := round.Mul(l...)
	if e != api.OK || n > api.MaxSize {
		goto refused
	}
	return n, api.OK
refused:
	return 0, api.ErrArg
}

// mayBe tells whether an address may be asked to be one of a multiple.
func mayBe(multiple uint64) bool {
	return round.Power(multiple) && multiple <= api.PageSize
}

// needOf tells what a size above 0 needs, that is bounded, at a multiple that may be.
func needOf(size, multiple uint64) api.Need {
	k, is := least(int(size))
	if is && multiple <= slots {
		return api.Need{Small: true, Class: int(k.number), Charge: k.payload}
	}
	return pagesOf(size)
}

// pagesOf tells the pages that hold a size. Neither call is refused: a page has bytes, and the size is bounded.
func pagesOf(size uint64) api.Need {
	pages, _ := round.Many(size, api.PageSize)
	charge, _ := round.Up(size, api.PageSize)
	return api.Need{Pages: int(pages), Charge: int(charge)}
}
