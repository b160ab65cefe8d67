package envelope

import (
	"errors"
	"strconv"

	"deaddrop/api"
)

// Why something is not sealed, or not opened.
var (
	errArg    = errors.New("it may not be")
	errLarge  = errors.New("too long to be padded")
	errForm   = errors.New("it says nothing")
	errEpoch  = errors.New("not known yet")
	errOld    = errors.New("its key was never had")
	errSender = errors.New("no member then")
	errTag    = errors.New("the tag does not fit")
)

// refusal says of what part, which is n, something is wrong.
type refusal struct {
	part string
	n    int
	why  error
}

func (r refusal) Error() string {
	return r.part + ", " + strconv.Itoa(r.n) + ": " + r.why.Error()
}

func (r refusal) Unwrap() error {
	return r.why
}

// inside refuses a part whose n is not from low to high.
func inside(part string, n, low, high int, why error) error {
	if low <= n && n <= high {
		return nil
	}
	return refusal{part, n, why}
}

// number is the number of why something is refused, however often that was
// wrapped; of no error OK.
func number(err error) api.Errno {
	switch {
	case err == nil:
		return api.OK
	case errors.Is(err, errLarge):
		return api.ErrLarge
	case errors.Is(err, errForm):
		return api.ErrForm
	case errors.Is(err, errEpoch):
		return api.ErrEpoch
	case errors.Is(err, errOld):
		return api.ErrOld
	case errors.Is(err, errSender):
		return api.ErrSender
	case errors.Is(err, errTag):
		return api.ErrTag
	}
	// errArg; and what is none of these, lest it be taken for no error.
	return api.ErrArg
}
