package window

import "pinfold/api"

const (
	// bookStep is how far the slots' books are from one another.
	bookStep = 64
	// greatFrom is the page of a window from which on all are great ones.
	greatFrom = 256
)

// windows are the slots', by their numbers. As many pages as one has lie ahead of the first: there the books are.
func windows() row { return row{api.Window, api.Window, api.Window, api.MaxTenants} }

// books are the slots', by their numbers.
func books() row { return row{1, bookStep, api.BookPages, api.MaxTenants} }

// ends are the first page of some, and the first one behind them.
type ends struct{ from, until int }

// tenant is a slot under way.
type tenant struct{ number }

func (t tenant) there() bool { return t.below(api.MaxTenants) }

func (t tenant) window() int { return t.in(windows()) }

func (t tenant) book() int { return t.in(books()) }

// regions are the classes', by their numbers: one page is left out ahead of each.
func (t tenant) regions() row {
	return row{sum(t.window(), 1), api.RegionPages + 1, api.RegionPages, api.Classes}
}

func (t tenant) great() ends {
	return ends{sum(t.window(), greatFrom), sum(t.window(), api.Window)}
}

// told is what is asked of a slot, if there is one of that number.
func told[T any](slot int, asked func(tenant) T) (T, api.Errno) {
	var nothing T
	t := tenant{number(slot)}
	if !t.there() {
		goto none
	}
	return asked(t), api.OK
none:
	return nothing, api.ErrArg
}
