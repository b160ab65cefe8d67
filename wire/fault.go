package wire

import (
	"errors"
	"strconv"
)

// fault is what is wrong with bytes that say no wire.
type fault int

const (
	noFault  fault = iota
	cutShort       // they end ahead of what they say
	leftOver       // there are more behind the wire
	noKind         // a wire begins with a byte that is no Kind
	tooMany        // a text, or a list, is longer than may be
	tooDeep        // more lists in one another than may be
)

func (f fault) Error() string {
	switch f {
	case cutShort:
		return "cut short"
	case leftOver:
		return "bytes left over"
	case noKind:
		return "no kind"
	case tooMany:
		return "too many"
	case tooDeep:
		return "too deep"
	}
	return "no fault"
}

// itemError says in which item of a list something is wrong.
type itemError struct {
	at  int
	err error
}

func (e itemError) Error() string {
	return "item " + strconv.Itoa(e.at) + ": " + e.err.Error()
}

func (e itemError) Unwrap() error {
	return e.err
}

// faultOf is the fault that each error of this package has at its bottom,
// in however many lists it was wrapped; of no error none.
func faultOf(err error) fault {
	var f fault
	if errors.As(err, &f) {
		return f
	}
	return noFault
}
