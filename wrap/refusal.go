package wrap

import (
	"errors"
	"strconv"

	"deaddrop/api"
)

// refusal is why a call refuses: the number that it tells.
type refusal api.Errno

func (r refusal) Error() string {
	switch api.Errno(r) {
	case api.ErrArg:
		return "it may not be"
	case api.ErrNone:
		return "it is no member"
	case api.ErrHave:
		return "it is a member already"
	case api.ErrEpoch:
		return "beyond the next one"
	case api.ErrTag:
		return "by another key, or of another record"
	case api.ErrReplay:
		return "it came already"
	case api.ErrFork:
		return "of another chain"
	case api.ErrFull:
		return "no room for one more"
	}
	return "another refusal"
}

// partError says of what part, which is n, something is refused.
type partError struct {
	part string
	n    int
	err  error
}

func (e partError) Error() string {
	return e.part + " " + strconv.Itoa(e.n) + ": " + e.err.Error()
}

func (e partError) Unwrap() error {
	return e.err
}

// refuse refuses a part, which is n, by the number e.
func refuse(part string, n int, e api.Errno) error {
	return partError{part, n, refusal(e)}
}

// number is the number of the refusal that each error of this package has at
// its bottom, however often it was wrapped; of no error OK.
func number(err error) api.Errno {
	var r refusal
	switch {
	case err == nil:
		return api.OK
	case errors.As(err, &r):
		return api.Errno(r)
	}
	// What is no refusal has a number all the same, lest it be taken for no error.
	return api.ErrArg
}
