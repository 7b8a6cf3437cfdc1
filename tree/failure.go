package tree

import (
	"strconv"

	"holdfast/api"
)

// failure is the error with which work is given up, however deep it is.
type failure struct {
	errno api.Errno
}

func (f failure) Error() string { return "tree: given up with error " + strconv.Itoa(int(f.errno)) }

func giveUp(e api.Errno) { panic(failure{e}) }

// caught does work, and tells the error with which it was given up.
func caught(work func()) (e api.Errno) {
	defer func() {
		switch reason := recover().(type) {
		case nil:
		case failure:
			e = reason.errno
		default:
			// No call panics, whatever its pages have.
			e = api.ErrBroken
		}
	}()
	work()
	return api.OK
}
