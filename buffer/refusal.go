package buffer

import (
	"errors"
	"strconv"
)

// Why there are no deltas.
var (
	errGone = errors.New("below the first one")
	errYet  = errors.New("above the one behind the last")
	errFew  = errors.New("fewer than none")
)

// refusal says of what part, which is n, something is wrong.
type refusal struct {
	part string
	n    int
	why  error
}

func (r refusal) Error() string {
	return r.part + ", " + strconv.Itoa(r.n) + ": " + r.why.Error()
}

func (r refusal) Unwrap() error {
	return r.why
}
