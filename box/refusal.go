package box

import (
	"errors"
	"strconv"
)

// Why something is not opened.
var (
	errKey   = errors.New("not as long as a pair of keys")
	errNonce = errors.New("not as long as a nonce")
	errShort = errors.New("shorter than a tag")
	errLong  = errors.New("longer than what is ever sealed")
	errTag   = errors.New("the tag does not fit")
)

// refusal says of what part, so many bytes long, something is wrong.
type refusal struct {
	part string
	size int
	why  error
}

func (r refusal) Error() string {
	return r.part + " of " + strconv.Itoa(r.size) + " bytes: " + r.why.Error()
}

func (r refusal) Unwrap() error {
	return r.why
}

// reason is why something is not opened; nil: it is opened. An error that is
// none of these is a reason of its own, lest something be opened beside it.
func reason(err error) error {
	switch {
	case errors.Is(err, errKey):
		return errKey
	case errors.Is(err, errNonce):
		return errNonce
	case errors.Is(err, errShort):
		return errShort
	case errors.Is(err, errLong):
		return errLong
	case errors.Is(err, errTag):
		return errTag
	}
	return err
}
