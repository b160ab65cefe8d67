package snap

import (
	"errors"
	"strconv"
)

// fault is why bytes are of no state, or a state has none.
type fault int

const (
	noFault    fault = iota
	noWire           // the bytes say no wire
	otherKind        // a wire is of another kind than stands there
	otherCount       // a list has more than stand there, or fewer
	tooMany          // a state has more runs than a list of a wire may have
	noState          // a state that may not be
)

func (f fault) Error() string {
	switch f {
	case noWire:
		return "no wire"
	case otherKind:
		return "another kind"
	case otherCount:
		return "another count"
	case tooMany:
		return "too many"
	case noState:
		return "no state that may be"
	}
	return "no fault"
}

// partError says in what part something is wrong: which one of its kind it is,
// or how many there are.
type partError struct {
	part string
	n    int
	err  error
}

func (e partError) Error() string {
	return e.part + " " + strconv.Itoa(e.n) + ": " + e.err.Error()
}

func (e partError) Unwrap() error {
	return e.err
}

// faultOf is the fault that each error of this package has at its bottom,
// however often it was wrapped; of no error none.
func faultOf(err error) fault {
	var f fault
	if errors.As(err, &f) {
		return f
	}
	return noFault
}
