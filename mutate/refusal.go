package mutate

import (
	"errors"
	"strconv"

	"deaddrop/api"
)

// Why a deed is refused.
var (
	errArg   = errors.New("may not be")
	errNone  = errors.New("there are none")
	errLarge = errors.New("too many, or too great")
)

// refusal says of what part, which comes to n, something is wrong.
type refusal struct {
	part string
	n    int
	why  error
}

func (r refusal) Error() string {
	return r.part + ", " + strconv.Itoa(r.n) + ": " + r.why.Error()
}

func (r refusal) Unwrap() error {
	return r.why
}

// inside refuses a part that comes to an n which is not from low to high.
func inside(part string, n, low, high int, why error) error {
	if low <= n && n <= high {
		return nil
	}
	return refusal{part, n, why}
}

// number is the number of why a deed is refused; of no error OK.
func number(err error) api.Errno {
	switch {
	case err == nil:
		return api.OK
	case errors.Is(err, errNone):
		return api.ErrNone
	case errors.Is(err, errLarge):
		return api.ErrLarge
	}
	// errArg; and what is none of these, lest it be taken for no error.
	return api.ErrArg
}
