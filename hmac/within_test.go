package hmac

import (
	"errors"
	"math"
	"strconv"
	"strings"
	"testing"
)

// Ways: the errors within are wrapped, and errors.Is tells them apart.
func TestLengthErrors(t *testing.T) {
	for _, c := range []struct {
		n    int
		want error
	}{
		{math.MinInt, errBelow}, {-1, errBelow},
		{0, nil}, {1, nil}, {maxLength - 1, nil}, {maxLength, nil},
		{maxLength + 1, errBeyond}, {math.MaxInt, errBeyond},
	} {
		err := checkLength(c.n)
		if c.want == nil {
			if err != nil {
				t.Errorf("length %d: %v", c.n, err)
			}
			continue
		}
		for _, why := range []error{errBelow, errBeyond} {
			if errors.Is(err, why) != (why == c.want) {
				t.Errorf("length %d: %v, told as %v", c.n, err, why)
			}
		}
		if err == c.want {
			t.Errorf("length %d: %v is not wrapped", c.n, err)
		}
		if text := err.Error(); !strings.Contains(text, strconv.Itoa(c.n)) || !strings.Contains(text, c.want.Error()) {
			t.Errorf("length %d: %q tells too little", c.n, text)
		}
	}
}

// 3.2: Equal looks at each byte: of two that differ at many places what is
// told has the bits of all of them.
func TestEachByteIsLookedAt(t *testing.T) {
	a := strings.Repeat("\x00", 32)
	for at := range len(a) {
		b := []byte(a)
		b[0] |= 1
		b[at] |= 2
		b[len(b)-1] |= 4
		if got := unlike(a, string(b)); got != 7 {
			t.Errorf("3.2: differing at 0, %d and %d: %d, not 7", at, len(b)-1, got)
		}
	}
	if got := unlike(a, a); got != 0 {
		t.Errorf("3.2: one with itself: %d", got)
	}
}
