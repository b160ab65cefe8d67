package wire

import (
	"errors"
	"strconv"
	"strings"
	"testing"

	"deaddrop/api"
)

// head is a Kind and a count.
func head(kind byte, count int) string {
	return string([]byte{kind, byte(count >> 24), byte(count >> 16), byte(count >> 8), byte(count)})
}

// faulty is bytes of which one thing is wrong, or none.
var faulty = []struct {
	s    string
	want fault
}{
	{"\x01\x00\x00\x00\x00\x00\x00\x00\x00", noFault}, {head(2, 0), noFault}, {head(2, 1) + "x", noFault}, {head(3, 0), noFault}, {head(3, 1) + head(2, 0), noFault},
	{"", cutShort}, {"\x01", cutShort}, {"\x01\x00\x00\x00\x00\x00\x00\x00", cutShort}, {"\x02\x00\x00\x00", cutShort}, {head(2, 2) + "x", cutShort}, {head(2, maxText), cutShort},
	{"\x03\x00\x00\x00", cutShort}, {head(3, 1), cutShort}, {head(3, 1) + "\x01\x00\x00\x00\x00", cutShort}, {head(3, 2) + head(2, 0), cutShort}, {head(3, maxList), cutShort},
	{"\x00", noKind}, {"\x04", noKind}, {"\xff\x00\x00\x00\x00", noKind}, {head(3, 1) + "\x00\x00\x00\x00\x00", noKind}, {head(3, 2) + head(2, 0) + "\x04\x00\x00\x00\x00", noKind},
	{head(2, maxText+1), tooMany}, {head(2, maxText+1) + strings.Repeat("x", maxText+1), tooMany}, {head(2, -1), tooMany}, {head(3, maxList+1), tooMany}, {head(3, -1), tooMany},
	{strings.Repeat(head(3, 1), api.MaxDeep) + head(3, 0), tooDeep}, {strings.Repeat(head(3, 1), api.MaxDeep+1), tooDeep},
}

// Ways: what is wrong with bytes is an error; errors.As tells it.
func TestFaults(t *testing.T) {
	for _, c := range faulty {
		_, err := whole(c.s)
		if got := faultOf(err); got != c.want || (err == nil) != (c.want == noFault) {
			t.Errorf("%.20x: %v, not %v", c.s, err, c.want)
		}
		if _, ok := Get(c.s); ok != (err == nil) {
			t.Errorf("%.20x: Get says %v beside %v", c.s, ok, err)
		}
	}
}

// Ways: it is wrapped once by each list on the way up, and still told.
func TestWrapped(t *testing.T) {
	for _, c := range []struct {
		s    string
		want fault
	}{
		{head(2, 2) + "x", cutShort}, {"\x09\x00\x00\x00\x00", noKind}, {head(2, maxText+1), tooMany}, {head(2, -1), tooMany},
	} {
		for lists := range api.MaxDeep + 1 {
			_, err := whole(strings.Repeat(head(3, 2)+head(2, 0), lists) + c.s)
			var f fault
			if !errors.As(err, &f) || f != c.want || faultOf(err) != c.want {
				t.Errorf("%v in %d lists: %v", c.want, lists, err)
			}
			for range lists {
				err = errors.Unwrap(err)
			}
			if err != error(c.want) {
				t.Errorf("%v in %d lists: %v at the bottom", c.want, lists, err)
			}
		}
	}
}

// Ways: each list that an error goes through tells the place, and adds no fault.
func TestPlaces(t *testing.T) {
	s := head(3, 2) + head(2, 0) + head(3, 3) + head(2, 0) + head(3, 0) + head(3, 1) + "\x09\x00\x00\x00\x00"
	_, err := whole(s)
	want := []int{1, 2, 0}
	for i, at := range want {
		var item itemError
		if !errors.As(err, &item) || item.at != at || !strings.Contains(err.Error(), strconv.Itoa(at)) {
			t.Fatalf("list %d: %v, not the place %d", i, err, at)
		}
		err = errors.Unwrap(err)
	}
	if err != error(noKind) {
		t.Errorf("at the bottom: %v", err)
	}
}

// Ways: bytes behind a wire are a fault of the whole, not of an item.
func TestLeftOver(t *testing.T) {
	for _, c := range faulty {
		if c.want != noFault {
			continue
		}
		for _, behind := range []string{"\x00", "\x01", "x", c.s} {
			if _, err := whole(c.s + behind); err != error(leftOver) || faultOf(err) != leftOver {
				t.Errorf("%x behind %x: %v", behind, c.s, err)
			}
		}
	}
}

// Ways: no two faults say the same; no error is no fault.
func TestFaultTexts(t *testing.T) {
	seen := map[string]bool{}
	for f := noFault; f <= tooDeep; f++ {
		if f.Error() == "" || seen[f.Error()] {
			t.Errorf("fault %d says %q", int(f), f.Error())
		}
		seen[f.Error()] = true
	}
	if f := faultOf(nil); f != noFault {
		t.Errorf("no error: %v", f)
	}
}

// size is just as long as what is put: memory is taken once.
func TestSize(t *testing.T) {
	for _, w := range []api.Wire{Num(-1), Text(""), Text("text"), List(), List(Num(1), Text("abc"), List(Text(""), List(Num(2))))} {
		if s := Put(w); len(s) != size(w) {
			t.Errorf("%v: %d bytes, not %d", w, len(s), size(w))
		}
	}
}
