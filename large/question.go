package large

import "pinfold/api"

// question is whether something is so, and the error if it is not.
type question struct {
	so func() bool
	e  api.Errno
}

// asked is the error of the first thing that is not so. What stands behind it is not asked: it may ask of what is not there.
func asked(l ...question) api.Errno {
	for _, q := range l {
		if !q.so() {
			return q.e
		}
	}
	return api.OK
}
