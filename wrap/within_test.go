package wrap

import (
	"errors"
	"slices"
	"strconv"
	"strings"
	"testing"

	"deaddrop/api"
	"deaddrop/box"
	"deaddrop/keys"
	"deaddrop/member"
)

const secret, master = "some secret", "some master"

// numbers are those of all refusals.
func numbers() []api.Errno {
	return []api.Errno{api.ErrArg, api.ErrNone, api.ErrHave, api.ErrEpoch, api.ErrTag, api.ErrReplay, api.ErrFork, api.ErrFull}
}

// chain are records by which devices come, or go: Kind, Dev; Kind, Dev; and so on.
func chain(t *testing.T, l ...int) []api.Record {
	t.Helper()
	var log []api.Record
	for i := 0; i+1 < len(l); i += 2 {
		r, e := Make(secret, master, log, l[i], l[i+1])
		if e != api.OK {
			t.Fatalf("Make tells %d", e)
		}
		log = append(log, r)
	}
	return log
}

// full is a chain of as many records as there may be.
func full(t *testing.T) []api.Record {
	l := []int{api.RAdd, 0}
	for len(l) < 2*api.MaxLog {
		l = append(l, api.RAdd, 5, api.RRevoke, 5)
	}
	return chain(t, l[:2*api.MaxLog]...)
}

// place is a part and which one, or how many, it is.
type place struct {
	part string
	n    int
}

// refused is what is refused by a number, and where that is said to be, from the
// outermost on.
type refused struct {
	err    error
	want   api.Errno
	places []place
}

// refusals are those of Make and of Open.
func refusals(t *testing.T) []refused {
	const a, r = api.RAdd, api.RRevoke
	log, most := chain(t, a, 0, a, 3), full(t)
	bare := api.Record{Seq: 2, Prev: log[1].Prev, Kind: a, Dev: 3}
	sealed := bare
	sealed.Wraps = []api.Wrap{{Dev: 1}, {Dev: 3, Box: box.Seal(keys.Wrap("own"), keys.Nonce(2), member.Head(bare), "short")}}
	open := func(own string, r api.Record, dev int) error {
		key, err := opened(own, r, dev)
		if key != "" {
			t.Errorf("beside %v: %x", err, key)
		}
		return err
	}
	return []refused{
		{checkDeed(log, 0, 1), api.ErrArg, []place{{"kind", 0}}},
		{checkDeed(log, 3, -1), api.ErrArg, []place{{"kind", 3}}},
		{checkDeed(log, -7, 0), api.ErrArg, []place{{"kind", -7}}},
		{checkDeed(log, a, -1), api.ErrArg, []place{{"device", -1}}},
		{checkDeed(log[1:], r, 8), api.ErrArg, []place{{"device", 8}}},
		{checkDeed(log[1:], a, 3), api.ErrArg, []place{{"records", 1}}},
		{checkDeed(append(slices.Clip(most), log...), a, 5), api.ErrArg, []place{{"records", 42}}},
		{checkDeed(nil, a, 1), api.ErrArg, []place{{"device", 1}}},
		{checkDeed(nil, r, 1), api.ErrArg, []place{{"device", 1}}},
		{checkDeed(nil, r, 0), api.ErrArg, []place{{"device", 0}}},
		{checkDeed(most, r, 0), api.ErrArg, []place{{"device", 0}}},
		{checkDeed(log, a, 3), api.ErrHave, []place{{"device", 3}}},
		{checkDeed(most, a, 0), api.ErrHave, []place{{"device", 0}}},
		{checkDeed(log, r, 4), api.ErrNone, []place{{"device", 4}}},
		{checkDeed(most, r, 4), api.ErrNone, []place{{"device", 4}}},
		{checkDeed(most, a, 4), api.ErrFull, []place{{"records", 40}}},

		{open("own", sealed, 2), api.ErrTag, []place{{"wraps of device", 2}}},
		{open("own", bare, -1), api.ErrTag, []place{{"wraps of device", -1}}},
		{open("another", sealed, 3), api.ErrTag, []place{{"wrap", 1}}},
		{open("own", sealed, 1), api.ErrTag, []place{{"wrap", 0}}},
		{open("own", sealed, 3), api.ErrTag, []place{{"bytes of a key", 5}}},
	}
}

// takings are those of Take: each is wrapped once more by what it is of.
func takings(t *testing.T) []refused {
	const a, r = api.RAdd, api.RRevoke
	log, most := chain(t, a, 0, a, 3, a, 1), full(t)
	two, last := log[:2], log[2]
	with := func(do func(r *api.Record)) api.Record {
		r := last
		r.Wraps = slices.Clone(r.Wraps)
		do(&r)
		return r
	}
	had := func(l ...int) []api.EpochKey {
		var out []api.EpochKey
		for _, n := range l {
			out = append(out, api.EpochKey{Epoch: n, Key: keys.Epoch(secret, n)})
		}
		return out
	}
	own := keys.Own(master, 3)
	take := func(log []api.Record, had []api.EpochKey, own string, r api.Record) error {
		more, err := brought(log, had, own, 3, r)
		if more != nil {
			t.Errorf("beside %v: %v", err, more)
		}
		if _, _, e := Take(log, had, own, 3, r); e != number(err) {
			t.Errorf("17.3: Take tells %d, within %v", e, err)
		}
		return err
	}
	record := func(n int) place { return place{"record", n} }
	return []refused{
		{take(log[1:], nil, own, last), api.ErrArg, []place{{"records", 2}}},
		{take(two, had(2, 2), own, last), api.ErrArg, []place{{"key", 1}}},
		{take(two, had(1, 3, 2), own, last), api.ErrArg, []place{{"key", 2}}},
		{take(log, nil, own, last), api.ErrReplay, []place{record(3), {"seq", 3}}},
		{take(log, nil, own, with(func(r *api.Record) { r.Tag = "" })), api.ErrFork, []place{record(3), {"seq", 3}}},
		{take(log, nil, own, with(func(r *api.Record) { r.Seq = 1 })), api.ErrFork, []place{record(1), {"seq", 1}}},
		{take(log[:1], nil, own, last), api.ErrEpoch, []place{record(3), {"seq", 3}}},
		{take(two, nil, own, with(func(r *api.Record) { r.Seq = 1 << 40 })), api.ErrEpoch, []place{record(1 << 40), {"seq", 1 << 40}}},
		{take(two, nil, own, with(func(r *api.Record) { r.Seq = -4 })), api.ErrFork, []place{record(-4), {"records", 3}}},
		{take(two, nil, own, with(func(r *api.Record) { r.Dev = 0 })), api.ErrFork, []place{record(3), {"records", 3}}},
		{take(most, nil, own, with(func(r *api.Record) { r.Seq, r.Prev = 41, member.Hash(most[39]) })), api.ErrFork, []place{record(41), {"records", 41}}},
		{take(two, had(1, 2), own, with(func(r *api.Record) { r.Tag = "" })), api.ErrTag, []place{record(3), {"tag by the key of epoch", 2}}},
		{take(two, had(1), "another", last), api.ErrTag, []place{record(3), {"wrap", 2}}},
		{take(two, had(1), own, with(func(r *api.Record) { r.Wraps = r.Wraps[:2] })), api.ErrTag, []place{record(3), {"wraps of device", 3}}},
		{take(two, had(1), own, with(func(r *api.Record) {
			r.Wraps[2].Box = box.Seal(keys.Wrap(own), keys.Nonce(3), member.Head(last), strings.Repeat("k", 33))
		})), api.ErrTag, []place{record(3), {"bytes of a key", 33}}},
	}
}

// Ways: refusals are errors within, wrapped by what they are of; errors.As tells
// their number.
func TestRefusals(t *testing.T) {
	told := map[api.Errno]bool{}
	for i, c := range append(refusals(t), takings(t)...) {
		var r refusal
		if !errors.As(c.err, &r) || api.Errno(r) != c.want || number(c.err) != c.want {
			t.Errorf("refusal %d: %v is told as %d, not %d", i, c.err, r, c.want)
			continue
		}
		told[c.want] = true
		err := c.err
		for _, p := range c.places {
			var part partError
			if !errors.As(err, &part) || part.part != p.part || part.n != p.n {
				t.Errorf("refusal %d: %v is told, not %v", i, part, p)
			}
			for _, said := range []string{p.part, strconv.Itoa(p.n), refusal(c.want).Error()} {
				if !strings.Contains(c.err.Error(), said) {
					t.Errorf("refusal %d: %q does not tell %q", i, c.err, said)
				}
			}
			err = errors.Unwrap(err)
		}
		if err != error(refusal(c.want)) {
			t.Errorf("refusal %d: %v at the bottom, not %v", i, err, refusal(c.want))
		}
		// However often it is wrapped on the way up.
		if again := (partError{"all", 1, partError{"of them", 2, c.err}}); number(again) != c.want {
			t.Errorf("refusal %d: %d wrapped again", i, number(again))
		}
	}
	for _, e := range numbers() {
		if !told[e] {
			t.Errorf("%d is never told", e)
		}
	}
}

// Ways: no error has no number; an error that is no refusal has one all the same;
// no two refusals say the same.
func TestNumber(t *testing.T) {
	if got := number(nil); got != api.OK {
		t.Errorf("no error: %d", got)
	}
	other := errors.New("another")
	for _, err := range []error{other, partError{"all", 1, other}} {
		if number(err) == api.OK {
			t.Errorf("%v has no number", err)
		}
	}
	seen := map[string]bool{refusal(api.OK).Error(): true}
	for _, e := range numbers() {
		if text := refusal(e).Error(); text == "" || seen[text] {
			t.Errorf("%d says %q", e, text)
		} else {
			seen[text] = true
		}
		if number(refusal(e)) != e || number(refuse("part", 1, e)) != e {
			t.Errorf("%d is told as %d", e, number(refuse("part", 1, e)))
		}
	}
}

// Ways: where there is no refusal, there is no error.
func TestNoRefusal(t *testing.T) {
	log := chain(t, api.RAdd, 0, api.RAdd, 3, api.RRevoke, 3)
	for n := range len(log) {
		if err := checkDeed(log[:n], log[n].Kind, log[n].Dev); err != nil {
			t.Errorf("record %d: %v", n, err)
		}
		if more, err := brought(log[:n], nil, keys.Own(master, 3), 3, log[n]); err != nil || (len(more) == 1) != (n == 1) {
			t.Errorf("record %d: %v, %v", n, more, err)
		}
		if key, err := opened(keys.Own(master, 0), log[n], 0); err != nil || key != keys.Epoch(secret, n+1) {
			t.Errorf("record %d: %x, %v", n, key, err)
		}
	}
}

// R3: with leaves the spare room of log as it is.
func TestWith(t *testing.T) {
	all := chain(t, api.RAdd, 0, api.RAdd, 3, api.RAdd, 1)
	longer := with(all[:1], all[2])
	if len(longer) != 2 || !member.Same(longer[1], all[2]) || all[1].Dev != 3 || len(with(nil, all[0])) != 1 {
		t.Errorf("R3: with tells %d records, and behind the end stands %d", len(longer), all[1].Dev)
	}
}
