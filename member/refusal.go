package member

import (
	"errors"
	"strconv"
)

// What may be wrong with a chain.
var (
	errMany   = errors.New("more than a chain may have")
	errRecord = errors.New("it may not be")
	errSeq    = errors.New("not the one behind the one ahead")
	errPrev   = errors.New("another record's hash than that of the one ahead")
	errFirst  = errors.New("the first record adds device 0")
	errHave   = errors.New("added while it is a member")
	errNone   = errors.New("revoked while it is no member")
	errStay   = errors.New("it stays for good")
)

// refusal says of what part, which is n, something is wrong.
type refusal struct {
	part string
	n    int
	why  error
}

func (r refusal) Error() string {
	return r.part + " " + strconv.Itoa(r.n) + ": " + r.why.Error()
}

func (r refusal) Unwrap() error {
	return r.why
}

// reason is what is wrong with a chain, however often it was wrapped; nil:
// nothing is. An error that is none of these is a reason of its own, lest a
// chain be taken in spite of it.
func reason(err error) error {
	switch {
	case errors.Is(err, errMany):
		return errMany
	case errors.Is(err, errRecord):
		return errRecord
	case errors.Is(err, errSeq):
		return errSeq
	case errors.Is(err, errPrev):
		return errPrev
	case errors.Is(err, errFirst):
		return errFirst
	case errors.Is(err, errHave):
		return errHave
	case errors.Is(err, errNone):
		return errNone
	case errors.Is(err, errStay):
		return errStay
	}
	return err
}
