package state

import "pinfold/api"

// kinds is how many states there are.
const kinds = 5

// becomes is, of each state, what it may become.
var becomes = [kinds][kinds]bool{
	api.StateFree: {api.StateKept: true},
	api.StateKept: {api.StateFree: true, api.StateLive: true},
	api.StateLive: {api.StateHeld: true, api.StateGone: true},
	api.StateHeld: {api.StateFree: true, api.StateGone: true},
	api.StateGone: {},
}

// names are what the states are called.
var names = [kinds]string{"free", "kept", "live", "held", "gone"}

// letters are the states' bytes in a text.
const letters = "fklhg"

// known tells whether all of those are states.
func known(l ...api.State) bool {
	for _, x := range l {
		if x < 0 || x >= kinds {
			return false
		}
	}
	return true
}
