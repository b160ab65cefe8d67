package member

import (
	"errors"
	"slices"
	"strconv"
	"strings"
	"testing"

	"deaddrop/api"
)

// reasons are all of them.
func reasons() []error {
	return []error{errMany, errRecord, errSeq, errPrev, errFirst, errHave, errNone, errStay}
}

// linked are records of these kinds and devices, one behind the other.
func linked(l ...int) []api.Record {
	var log []api.Record
	for i := 0; i+1 < len(l); i += 2 {
		r := api.Record{Seq: len(log) + 1, Kind: l[i], Dev: l[i+1]}
		if len(log) > 0 {
			r.Prev = Hash(log[len(log)-1])
		}
		log = append(log, r)
	}
	return log
}

// with is log with its i-th record turned.
func with(log []api.Record, i int, do func(r *api.Record)) []api.Record {
	log = slices.Clone(log)
	do(&log[i])
	return log
}

// place is a part and which one, or how many, it is.
type place struct {
	part string
	n    int
}

// faulty is a log of which one thing is wrong, and where that is said to be, from
// the outermost on.
type faulty struct {
	log    []api.Record
	want   error
	places []place
}

func faults() []faulty {
	const a, r = api.RAdd, api.RRevoke
	three := linked(a, 0, a, 1, r, 1)
	long := []int{a, 0}
	for range 20 {
		long = append(long, a, 7, r, 7)
	}
	other := strings.Repeat("o", hashSize)
	return []faulty{
		{linked(long...), errMany, []place{{"records", 41}}},
		{make([]api.Record, 50), errMany, []place{{"records", 50}}},

		{make([]api.Record, 3), errRecord, []place{{"record", 0}}},
		{with(three, 0, func(r *api.Record) { r.Dev = 8 }), errRecord, []place{{"record", 0}}},
		{with(three, 1, func(r *api.Record) { r.Seq = 0 }), errRecord, []place{{"record", 1}}},
		{with(three, 1, func(r *api.Record) { r.Tag = "x" }), errRecord, []place{{"record", 1}}},
		{with(three, 1, func(r *api.Record) { r.Prev = "" }), errRecord, []place{{"record", 1}}},
		{with(three, 2, func(r *api.Record) { r.Kind = 3 }), errRecord, []place{{"record", 2}}},
		{with(three, 2, func(r *api.Record) { r.Wraps = []api.Wrap{{Dev: 8}} }), errRecord, []place{{"record", 2}}},

		{three[1:], errSeq, []place{{"record", 0}, {"seq", 2}}},
		{three[:1:1], nil, nil},
		{append(three[:1:1], three[2]), errSeq, []place{{"record", 1}, {"seq", 3}}},
		{append(three[:2:2], three[1]), errSeq, []place{{"record", 2}, {"seq", 2}}},
		{with(three, 2, func(r *api.Record) { r.Seq, r.Prev = 9, other }), errSeq, []place{{"record", 2}, {"seq", 9}}},

		{with(three, 0, func(r *api.Record) { r.Prev = other }), errPrev, []place{{"record", 0}, {"bytes of prev", 32}}},
		{with(three, 0, func(r *api.Record) { r.Prev, r.Dev = other, 3 }), errPrev, []place{{"record", 0}, {"bytes of prev", 32}}},
		{with(three, 1, func(r *api.Record) { r.Prev = other }), errPrev, []place{{"record", 1}, {"bytes of prev", 32}}},
		{with(three, 0, func(r *api.Record) { r.Wraps = []api.Wrap{{Dev: 0}} }), errPrev, []place{{"record", 1}, {"bytes of prev", 32}}},
		{with(three, 1, func(r *api.Record) { r.Tag = other[:api.TagSize] }), errPrev, []place{{"record", 2}, {"bytes of prev", 32}}},

		{linked(a, 3), errFirst, []place{{"record", 0}, {"device", 3}}},
		{linked(r, 0), errFirst, []place{{"record", 0}, {"device", 0}}},
		{linked(r, 7, a, 0), errFirst, []place{{"record", 0}, {"device", 7}}},
		{linked(a, 0, a, 0), errHave, []place{{"record", 1}, {"device", 0}}},
		{linked(a, 0, a, 5, a, 5), errHave, []place{{"record", 2}, {"device", 5}}},
		{linked(a, 0, r, 5), errNone, []place{{"record", 1}, {"device", 5}}},
		{linked(a, 0, a, 5, r, 5, r, 5), errNone, []place{{"record", 3}, {"device", 5}}},
		{linked(a, 0, r, 0), errStay, []place{{"record", 1}, {"device", 0}}},
		{linked(a, 0, a, 7, r, 0, a, 7), errStay, []place{{"record", 2}, {"device", 0}}},
	}
}

// Ways: what is wrong with a chain is an error, which errors.Is tells; Check goes
// by it.
func TestReasons(t *testing.T) {
	for i, c := range faults() {
		err := checkChain(c.log)
		for _, why := range reasons() {
			if errors.Is(err, why) != (why == c.want) {
				t.Errorf("chain %d: %v, told as %v", i, err, why)
			}
		}
		if reason(err) != c.want {
			t.Errorf("chain %d: %v, not %v", i, reason(err), c.want)
		}
		if Check(c.log...) != (c.want == nil) {
			t.Errorf("15.2: Check of chain %d is %v beside %v", i, c.want != nil, err)
		}
	}
}

// Ways: that error is wrapped, by those that tell of which record it is, and of
// what part.
func TestWrapped(t *testing.T) {
	for i, c := range faults() {
		whole := checkChain(c.log)
		err := whole
		for _, p := range c.places {
			var r refusal
			if !errors.As(err, &r) || r.part != p.part || r.n != p.n {
				t.Errorf("chain %d: %v is told, not %v", i, r, p)
			}
			for _, told := range []string{p.part, strconv.Itoa(p.n), c.want.Error()} {
				if !strings.Contains(whole.Error(), told) {
					t.Errorf("chain %d: %q does not tell %q", i, whole, told)
				}
			}
			err = errors.Unwrap(err)
		}
		if err != c.want {
			t.Errorf("chain %d: %v at the bottom, not %v", i, err, c.want)
		}
		// However often it is wrapped on the way up.
		if again := (refusal{"all", 1, whole}); whole != nil && reason(again) != c.want {
			t.Errorf("chain %d: %v wrapped again", i, reason(again))
		}
	}
}

// Ways: no error is no reason; an error that is no reason yet is one all the
// same; no two say the same.
func TestNoReason(t *testing.T) {
	if got := reason(nil); got != nil {
		t.Errorf("no error: %v", got)
	}
	for n := range 4 {
		if err := checkChain(linked(api.RAdd, 0, api.RAdd, 1, api.RRevoke, 1)[:n]); err != nil {
			t.Errorf("a chain of %d: %v", n, err)
		}
	}
	other := errors.New("another")
	for _, err := range []error{other, refusal{"all", 1, other}} {
		if reason(err) == nil {
			t.Errorf("%v is no reason", err)
		}
	}
	seen := map[string]bool{}
	for _, why := range reasons() {
		if seen[why.Error()] || reason(why) != why {
			t.Errorf("two reasons say %q", why)
		}
		seen[why.Error()] = true
	}
}
