package buffer

import (
	"errors"
	"math"
	"strconv"
	"strings"
	"testing"

	"deaddrop/api"
)

// reasons are all of them.
func reasons() []error {
	return []error{errGone, errYet, errFew}
}

// three is a buffer of three deltas.
func three(first int) api.Buffer {
	var l []api.State
	for n := 1; n <= 3; n++ {
		l = append(l, api.State{Seen: []api.Run{{Dev: 2, From: n, To: n}}})
	}
	return api.Buffer{First: first, L: l}
}

// refused is what is refused, each for one reason; part and told are those that
// it is refused with.
type refused struct {
	b       api.Buffer
	n, many int
	part    string
	told    int
	want    error
}

func refusals() []refused {
	const most = 1 << 52
	return []refused{
		{three(5), 4, 1, "number", 4, errGone},
		{three(5), 0, 0, "number", 0, errGone},
		{three(5), -1, 9, "number", -1, errGone},
		{three(0), -1, 1, "number", -1, errGone},
		{three(0), math.MinInt, 1, "number", math.MinInt, errGone},
		{three(most), most - 1, 1, "number", most - 1, errGone},
		{three(most), math.MinInt, 1, "number", math.MinInt, errGone},
		{api.Buffer{First: 5}, 4, 1, "number", 4, errGone},

		{three(5), 9, 1, "number", 9, errYet},
		{three(5), 9, 0, "number", 9, errYet},
		{three(0), 4, 1, "number", 4, errYet},
		{three(0), math.MaxInt, 1, "number", math.MaxInt, errYet},
		{three(most), most + 4, 1, "number", most + 4, errYet},
		{three(most), math.MaxInt, math.MaxInt, "number", math.MaxInt, errYet},
		{api.Buffer{}, 1, 1, "number", 1, errYet},
		{api.Buffer{First: 5}, 6, 1, "number", 6, errYet},

		{three(5), 5, -1, "how many", -1, errFew},
		{three(5), 8, -2, "how many", -2, errFew},
		{three(5), 6, math.MinInt, "how many", math.MinInt, errFew},
		{api.Buffer{}, 0, -1, "how many", -1, errFew},
	}
}

// Ways: why there are none is an error within; errors.Is tells it.
func TestReasons(t *testing.T) {
	for _, c := range refusals() {
		l, err := from(c.b, c.n, c.many)
		for _, why := range reasons() {
			if errors.Is(err, why) != (why == c.want) {
				t.Errorf("%s, %d: %v, told as %v", c.part, c.told, err, why)
			}
		}
		if l != nil {
			t.Errorf("%s, %d: beside an error: %v", c.part, c.told, l)
		}
		s, ok := Since(c.b, c.n, c.many)
		if ok || s.Seen != nil || s.Facts != nil {
			t.Errorf("R4: %s, %d: %v, %v", c.part, c.told, s, ok)
		}
	}
}

// Ways: that error is wrapped, by one that tells of what part, and what it is.
func TestWrapped(t *testing.T) {
	for _, c := range refusals() {
		_, err := from(c.b, c.n, c.many)
		if err == c.want || errors.Unwrap(err) != c.want {
			t.Errorf("%s, %d: %v is not wrapped once", c.part, c.told, err)
		}
		var r refusal
		if !errors.As(err, &r) || r.part != c.part || r.n != c.told {
			t.Errorf("%s, %d: told as %v", c.part, c.told, err)
			continue
		}
		for _, told := range []string{c.part, strconv.Itoa(c.told), c.want.Error()} {
			if !strings.Contains(err.Error(), told) {
				t.Errorf("%s, %d: %q does not tell %q", c.part, c.told, err, told)
			}
		}
	}
}

// Ways: no two reasons say the same.
func TestApart(t *testing.T) {
	seen := map[string]bool{}
	for _, why := range reasons() {
		if seen[why.Error()] {
			t.Errorf("two reasons say %q", why)
		}
		seen[why.Error()] = true
	}
}

// Ways: where there are some, or none are asked, there is no error.
func TestFrom(t *testing.T) {
	for _, first := range []int{0, 5, 1 << 52} {
		for at := range 4 {
			for many := range 5 {
				l, err := from(three(first), first+at, many)
				if err != nil || len(l) != min(many, 3-at) {
					t.Errorf("from %d on, %d of them: %v, %v", at, many, l, err)
				}
				for i, s := range l {
					if s.Seen[0].From != at+i+1 {
						t.Errorf("from %d on: the %d-th is %v", at, i, s)
					}
				}
			}
		}
	}
}

// 12.1: how many are ahead of a number, where it lies as far from First as a
// number can.
func TestAhead(t *testing.T) {
	for _, c := range []struct {
		first, n, want int
		why            error
	}{
		{0, 0, 0, nil}, {0, 3, 3, nil}, {0, 4, 0, errYet}, {0, -1, 0, errGone}, {5, 5, 0, nil}, {5, 7, 2, nil}, {5, 8, 3, nil}, {5, 9, 0, errYet},
		{1 << 52, 1<<52 + 3, 3, nil}, {0, math.MaxInt, 0, errYet}, {1 << 52, math.MinInt, 0, errGone},
		{math.MinInt, math.MaxInt, 0, errYet}, {math.MinInt, 0, 0, errYet}, {math.MinInt, math.MinInt + 3, 3, nil}, {-1, math.MaxInt, 0, errYet}, {-1, math.MaxInt - 1, 0, errYet},
		{math.MaxInt, math.MinInt, 0, errGone}, {math.MaxInt, math.MaxInt, 0, nil}, {math.MaxInt - 1, math.MaxInt, 1, nil},
	} {
		got, err := ahead(three(c.first), c.n)
		if got != c.want || !errors.Is(err, c.why) {
			t.Errorf("from %d on, %d: %d, %v, not %d, %v", c.first, c.n, got, err, c.want, c.why)
		}
	}
}

// 12.1: Ack goes by the reason, too.
func TestAckReasons(t *testing.T) {
	for _, c := range refusals() {
		first, left := c.b.First, len(c.b.L)
		switch c.want {
		case errYet:
			first, left = first+left, 0
		case errFew:
			continue
		}
		if got := Ack(c.b, c.n); got.First != first || len(got.L) != left {
			t.Errorf("12.1: Ack, from %d on, %d: %v", c.b.First, c.n, got)
		}
	}
}
