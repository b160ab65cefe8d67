package mutate

import (
	"errors"
	"math"
	"strconv"
	"strings"
	"testing"

	"deaddrop/api"
)

// reasons are all of them.
func reasons() []error {
	return []error{errArg, errNone, errLarge}
}

// refused is what is refused, each for one reason; part and n are those that are
// told.
type refused struct {
	s    api.State
	dev  int
	op   api.Op
	part string
	n    int
	want error
}

// member is a state that has one member, and has it by this dot.
func member(dev, n int) api.State {
	d := api.Dot{Dev: dev, N: n}
	return api.State{Seen: []api.Run{{Dev: dev, From: n, To: n}}, Facts: []api.Fact{{Dot: d, Key: "k", Kind: api.FSet, Item: "m"}}}
}

// counter is a state that has counted n.
func counter(n int) api.State {
	s := member(1, 1)
	s.Facts[0].Kind, s.Facts[0].Item, s.Facts[0].N = api.FCnt, "", n
	return s
}

// full is a state of as many facts as there may be.
func full() api.State {
	s := api.State{Seen: []api.Run{{Dev: 1, From: 1, To: api.MaxFacts}}}
	for i := range api.MaxFacts {
		s.Facts = append(s.Facts, api.Fact{Dot: api.Dot{Dev: 1, N: i + 1}, Key: "k", Kind: api.FSet, Item: strconv.Itoa(i)})
	}
	return s
}

func refusals() []refused {
	key, item := strings.Repeat("k", api.MaxKey+1), strings.Repeat("i", api.MaxItem+1)
	return []refused{
		{member(1, 1), -1, api.Op{Kind: api.OSet}, "device", -1, errArg},
		{member(1, 1), api.MaxDevs, api.Op{Kind: api.ODel, Key: "k"}, "device", api.MaxDevs, errArg},
		{member(1, 1), 1, api.Op{}, "kind", 0, errArg},
		{member(1, 1), 1, api.Op{Kind: 6}, "kind", 6, errArg},
		{member(1, 1), 1, api.Op{Kind: math.MinInt}, "kind", math.MinInt, errArg},
		{member(1, 1), 1, api.Op{Kind: api.ODel, Key: key}, "bytes of a key", 41, errArg},
		{member(1, 1), 1, api.Op{Kind: api.OSet, Item: item}, "bytes of an item", 201, errArg},
		{member(1, 1), 1, api.Op{Kind: api.OAdd, Item: item}, "bytes of an item", 201, errArg},
		{member(1, 1), 1, api.Op{Kind: api.ORem, Item: item}, "bytes of an item", 201, errArg},
		{member(1, 1), 1, api.Op{Kind: api.OInc, N: api.MaxUnit + 1}, "number", api.MaxUnit + 1, errArg},
		{member(1, 1), 1, api.Op{Kind: api.OInc, N: -api.MaxUnit - 1}, "number", -api.MaxUnit - 1, errArg},
		// The first of them that the document names.
		{member(1, 1), -1, api.Op{Kind: 6, Key: key, Item: item}, "device", -1, errArg},
		{member(1, 1), 1, api.Op{Kind: 6, Key: key, Item: item}, "kind", 6, errArg},
		{member(1, 1), 1, api.Op{Kind: api.OAdd, Key: key, Item: item}, "bytes of a key", 41, errArg},
		{member(1, 1), 1, api.Op{Kind: api.OInc, Key: key, N: math.MaxInt}, "bytes of a key", 41, errArg},

		{member(1, 1), 1, api.Op{Kind: api.ORem, Key: "k", Item: "n"}, "facts to go", 0, errNone},
		{member(1, 1), 1, api.Op{Kind: api.ODel, Key: "l"}, "facts to go", 0, errNone},

		{member(1, api.MaxDot), 1, api.Op{Kind: api.OSet}, "deeds so far", api.MaxDot, errLarge},
		{member(1, api.MaxDot), 1, api.Op{Kind: api.OAdd, Key: "k", Item: "m"}, "deeds so far", api.MaxDot, errLarge},
		{counter(1), 1, api.Op{Kind: api.OInc, Key: "k", N: api.MaxUnit}, "count", api.MaxUnit + 1, errLarge},
		{counter(-1), 1, api.Op{Kind: api.OInc, Key: "k", N: -api.MaxUnit}, "count", -api.MaxUnit - 1, errLarge},
		{full(), 1, api.Op{Kind: api.OAdd, Key: "k", Item: "m"}, "facts", api.MaxFacts + 1, errLarge},
		{full(), 2, api.Op{Kind: api.OInc, Key: "k"}, "facts", api.MaxFacts + 1, errLarge},
	}
}

// numbered is the number of each reason.
func numbered(why error) api.Errno {
	switch why {
	case errArg:
		return api.ErrArg
	case errNone:
		return api.ErrNone
	}
	return api.ErrLarge
}

// Ways: why a deed is refused is an error within; errors.Is tells it, and Do its
// number.
func TestReasons(t *testing.T) {
	for _, c := range refusals() {
		_, err := done(c.s, c.dev, c.op)
		for _, why := range reasons() {
			if errors.Is(err, why) != (why == c.want) {
				t.Errorf("%s, %d: %v, told as %v", c.part, c.n, err, why)
			}
		}
		delta, e := Do(c.s, c.dev, c.op)
		if e != numbered(c.want) || delta.Seen != nil || delta.Facts != nil {
			t.Errorf("R4: %s, %d: %d, %v", c.part, c.n, e, delta)
		}
	}
}

// Ways: that error is wrapped, by one that tells of what part, and what it comes
// to.
func TestWrapped(t *testing.T) {
	for _, c := range refusals() {
		_, err := done(c.s, c.dev, c.op)
		if err == c.want || errors.Unwrap(err) != c.want {
			t.Errorf("%s, %d: %v is not wrapped once", c.part, c.n, err)
		}
		var r refusal
		if !errors.As(err, &r) || r.part != c.part || r.n != c.n {
			t.Errorf("%s, %d: told as %v", c.part, c.n, err)
			continue
		}
		for _, told := range []string{c.part, strconv.Itoa(c.n), c.want.Error()} {
			if !strings.Contains(err.Error(), told) {
				t.Errorf("%s, %d: %q does not tell %q", c.part, c.n, err, told)
			}
		}
		// However often it is wrapped on the way up.
		if again := (refusal{"all", 1, err}); number(again) != numbered(c.want) {
			t.Errorf("%s, %d: %d, wrapped again", c.part, c.n, number(again))
		}
	}
}

// Ways: no error has no number; an error that is no reason has one all the same.
func TestNumber(t *testing.T) {
	if got := number(nil); got != api.OK {
		t.Errorf("no error: %d", got)
	}
	other := errors.New("another")
	for _, err := range []error{other, refusal{"all", 1, other}} {
		if number(err) == api.OK {
			t.Errorf("%v has no number", err)
		}
	}
	seen := map[string]bool{}
	for _, why := range reasons() {
		if number(why) != numbered(why) {
			t.Errorf("%v: %d", why, number(why))
		}
		if seen[why.Error()] {
			t.Errorf("two reasons say %q", why)
		}
		seen[why.Error()] = true
	}
}

// Ways: a deed that is done has no error.
func TestDone(t *testing.T) {
	for kind := api.OSet; kind <= api.ODel; kind++ {
		got, err := done(member(1, 1), 1, api.Op{Kind: kind, Key: "k", Item: "m"})
		if err != nil || len(got.Seen) == 0 {
			t.Errorf("kind %d: %v, %v", kind, got, err)
		}
	}
}

// 11.1: the edges are inside, and one beyond is not.
func TestInside(t *testing.T) {
	for _, c := range []struct {
		n, low, high int
		want         bool
	}{
		{0, 0, 0, true}, {-1, 0, 0, false}, {1, 0, 0, false}, {3, 3, 5, true}, {5, 3, 5, true}, {2, 3, 5, false}, {6, 3, 5, false},
		{math.MinInt, 0, 7, false}, {math.MaxInt, 0, 7, false}, {math.MinInt, math.MinInt, math.MaxInt, true}, {math.MaxInt, math.MinInt, math.MaxInt, true},
	} {
		if err := inside("part", c.n, c.low, c.high, errArg); (err == nil) != c.want {
			t.Errorf("%d from %d to %d: %v", c.n, c.low, c.high, err)
		}
	}
}
