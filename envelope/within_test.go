package envelope

import (
	"errors"
	"math"
	"strconv"
	"strings"
	"testing"

	"deaddrop/api"
	"deaddrop/box"
	"deaddrop/keys"
)

// taxonomy are all reasons, by their numbers.
func taxonomy() map[api.Errno]error {
	return map[api.Errno]error{
		api.ErrArg: errArg, api.ErrLarge: errLarge, api.ErrForm: errForm, api.ErrEpoch: errEpoch, api.ErrOld: errOld, api.ErrSender: errSender, api.ErrTag: errTag,
	}
}

// place is a part and which one, or how many, it is.
type place struct {
	part string
	n    int
}

// refused is what is refused for a reason, and where that is said to be, from the
// outermost on.
type refused struct {
	err    error
	want   error
	number api.Errno
	places []place
}

// sealings are refusals of Seal.
func sealings(t *testing.T) []refused {
	key, good := strings.Repeat("k", api.KeySize), api.Header{Epoch: 5, From: 3, Seq: 9}
	seal := func(key string, h api.Header, n int) error {
		body := strings.Repeat("x", n)
		s, err := sealed(key, h, body)
		if s != "" {
			t.Errorf("beside %v: %d bytes", err, len(s))
		}
		if _, e := Seal(key, h, body); e != number(err) {
			t.Errorf("18.1: Seal tells %d, within %v", e, err)
		}
		return err
	}
	with := func(epoch, from, seq int) api.Header {
		return api.Header{Epoch: epoch, From: from, Seq: seq}
	}
	return []refused{
		{seal("", good, 0), errArg, api.ErrArg, []place{{"bytes of a key", 0}}},
		{seal(key[1:], with(0, -1, 0), 16384), errArg, api.ErrArg, []place{{"bytes of a key", 31}}},
		{seal(key+"k", good, 0), errArg, api.ErrArg, []place{{"bytes of a key", 33}}},
		{seal(key, with(0, -1, 0), 16384), errArg, api.ErrArg, []place{{"epoch", 0}}},
		{seal(key, with(1<<20+1, 3, 9), 0), errArg, api.ErrArg, []place{{"epoch", 1<<20 + 1}}},
		{seal(key, with(math.MinInt, 3, 9), 0), errArg, api.ErrArg, []place{{"epoch", math.MinInt}}},
		{seal(key, with(5, -1, 0), 0), errArg, api.ErrArg, []place{{"sender", -1}}},
		{seal(key, with(5, 8, 9), 0), errArg, api.ErrArg, []place{{"sender", 8}}},
		{seal(key, with(5, 3, 0), 16384), errArg, api.ErrArg, []place{{"number", 0}}},
		{seal(key, with(5, 3, 1<<52+1), 0), errArg, api.ErrArg, []place{{"number", 1<<52 + 1}}},
		{seal(key, good, 16384), errLarge, api.ErrLarge, []place{{"bytes of a body", 16384}}},
	}
}

// parsings are refusals of Parse, and what it was handed.
func parsings(t *testing.T) map[string]refused {
	l := map[string]refused{}
	note := func(s string, places ...place) {
		h, err := parsed(s)
		if got, ok := Parse(s); h != (api.Header{}) || got != h || ok {
			t.Errorf("18.1: beside %v Parse is %v, %v", err, got, ok)
		}
		l[s] = refused{err, errForm, api.ErrForm, places}
	}
	good := head(api.Header{Epoch: 5, From: 3, Seq: 9})
	note("", place{"bytes of a header", 0})
	note(good[:31], place{"bytes of a header", 31})
	note(strings.Repeat("\x00", 40), place{"numbers of a header", 0})
	note("\x03\x00\x00\x00\x02"+good[5:], place{"numbers of a header", 0})
	note("\x02\x00\x00\x00\x1b"+good[5:], place{"numbers of a header", 0})
	note("\x03\x00\x00\x00\x01\x02\x00\x00\x00\x16"+good[:22], place{"numbers of a header", 1})
	note("\x03\x00\x00\x00\x05"+strings.Repeat("\x02\x00\x00\x00\x00", 4)+"\x02\x00\x00\x00\x0212", place{"numbers of a header", 5})
	note(good[:5]+"\x02\x00\x00\x00\x041234"+good[14:], place{"bytes of a header", 32})
	note(good[:23]+"\x02\x00\x00\x00\x041234", place{"bytes of a header", 32})
	note(head(api.Header{From: 3, Seq: 9})+"x", place{"epoch", 0})
	note(head(api.Header{Epoch: 5, From: 8, Seq: 9}), place{"sender", 8})
	note(head(api.Header{Epoch: 5, From: 3, Seq: -9}), place{"number", -9})
	return l
}

// openings are refusals of Open.
func openings(t *testing.T) []refused {
	log := []api.Record{{Seq: 1, Kind: api.RAdd}, {Seq: 2, Kind: api.RAdd, Dev: 3}, {Seq: 3, Kind: api.RRevoke, Dev: 3}}
	had := []api.EpochKey{{Epoch: 1, Key: strings.Repeat("1", 32)}, {Epoch: 3, Key: strings.Repeat("3", 32)}}
	open := func(s string) error {
		h, body, err := opened(log, had, s)
		if h != (api.Header{}) || body != "" {
			t.Errorf("beside %v: %v, %q", err, h, body)
		}
		if _, _, e := Open(log, had, s); e != number(err) {
			t.Errorf("18.2: Open tells %d, within %v", e, err)
		}
		return err
	}
	seal := func(key byte, epoch, from, seq int) string {
		s, e := Seal(strings.Repeat(string(key), 32), api.Header{Epoch: epoch, From: from, Seq: seq}, "some body")
		if e != api.OK {
			t.Fatalf("18.1: Seal tells %d", e)
		}
		return s
	}
	good := seal('1', 1, 0, 9)
	ahead := good[:headSize]
	bare := ahead + box.Seal(keys.Send(had[0].Key, 0), keys.Nonce(9), ahead, "not padded")
	l := []refused{
		{open(seal('4', 4, 0, 7)), errEpoch, api.ErrEpoch, []place{{"envelope", 7}, {"epoch", 4}}},
		{open(seal('4', 1<<20, 7, 8)), errEpoch, api.ErrEpoch, []place{{"envelope", 8}, {"epoch", 1 << 20}}},
		{open(seal('2', 2, 7, 9)), errOld, api.ErrOld, []place{{"envelope", 9}, {"epoch", 2}}},
		{open(seal('3', 3, 3, 10)), errSender, api.ErrSender, []place{{"envelope", 10}, {"sender", 3}}},
		{open(seal('1', 1, 3, 11)[:40]), errSender, api.ErrSender, []place{{"envelope", 11}, {"sender", 3}}},
		{open(seal('2', 1, 0, 12)), errTag, api.ErrTag, []place{{"envelope", 12}, {"bytes behind the header", 80}}},
		{open(good + "x"), errTag, api.ErrTag, []place{{"envelope", 9}, {"bytes behind the header", 81}}},
		{open(ahead), errTag, api.ErrTag, []place{{"envelope", 9}, {"bytes behind the header", 0}}},
		{open(bare), errForm, api.ErrForm, []place{{"envelope", 9}, {"bytes that were sealed", 10}}},
	}
	for s, c := range parsings(t) {
		l = append(l, refused{open(s), c.want, c.number, append([]place{{"bytes of an envelope", len(s)}}, c.places...)})
	}
	return l
}

// refusals are all of them.
func refusals(t *testing.T) []refused {
	l := append(sealings(t), openings(t)...)
	for _, c := range parsings(t) {
		l = append(l, c)
	}
	return l
}

// Ways: the whole taxonomy is errors within, told apart by errors.Is; the calls go
// by it.
func TestTaxonomy(t *testing.T) {
	told := map[api.Errno]bool{}
	for i, c := range refusals(t) {
		for e, why := range taxonomy() {
			if errors.Is(c.err, why) != (why == c.want) {
				t.Errorf("refusal %d: %v, told as %d", i, c.err, e)
			}
		}
		if number(c.err) != c.number {
			t.Errorf("refusal %d: %v is told as %d, not %d", i, c.err, number(c.err), c.number)
		}
		told[c.number] = true
	}
	for e := range taxonomy() {
		if !told[e] {
			t.Errorf("%d is never told", e)
		}
	}
}

// Ways: these errors are wrapped, by those that tell what part it is of.
func TestWrapped(t *testing.T) {
	for i, c := range refusals(t) {
		err := c.err
		for _, p := range c.places {
			var r refusal
			if !errors.As(err, &r) || r.part != p.part || r.n != p.n {
				t.Errorf("refusal %d: %v is told, not %v", i, r, p)
			}
			for _, said := range []string{p.part, strconv.Itoa(p.n), c.want.Error()} {
				if !strings.Contains(c.err.Error(), said) {
					t.Errorf("refusal %d: %q does not tell %q", i, c.err, said)
				}
			}
			err = errors.Unwrap(err)
		}
		if err != c.want {
			t.Errorf("refusal %d: %v at the bottom, not %v", i, err, c.want)
		}
		// However often it is wrapped on the way up.
		if again := (refusal{"all", 1, refusal{"of them", 2, c.err}}); number(again) != c.number {
			t.Errorf("refusal %d: %d wrapped again", i, number(again))
		}
	}
}

// Ways: no error has no number; an error that is of no reason has one all the same;
// no two reasons say the same.
func TestNumber(t *testing.T) {
	if got := number(nil); got != api.OK {
		t.Errorf("no error: %d", got)
	}
	other := errors.New("another")
	for _, err := range []error{other, refusal{"all", 1, other}} {
		if number(err) == api.OK {
			t.Errorf("%v has no number", err)
		}
	}
	seen := map[string]bool{"": true}
	for e, why := range taxonomy() {
		if seen[why.Error()] || number(why) != e {
			t.Errorf("%d says %q, and is told as %d", e, why, number(why))
		}
		seen[why.Error()] = true
	}
}

// Ways: where nothing is refused, there is no error.
func TestNoRefusal(t *testing.T) {
	key := strings.Repeat("k", api.KeySize)
	var log []api.Record
	var had []api.EpochKey
	for i := range api.MaxDevs {
		log = append(log, api.Record{Seq: i + 1, Kind: api.RAdd, Dev: i})
		had = append(had, api.EpochKey{Epoch: i + 1, Key: key})
		h := api.Header{Epoch: i + 1, From: i, Seq: 1 << (i * 7)}
		s, err := sealed(key, h, "some body")
		if err != nil || len(s) != headSize+64+api.TagSize {
			t.Errorf("18.1: %v, %d bytes", err, len(s))
		}
		if got, err := parsed(s); err != nil || got != h {
			t.Errorf("18.1: %v, %v", got, err)
		}
		if got, body, err := opened(log, had, s); err != nil || got != h || body != "some body" {
			t.Errorf("18.2: %v, %q, %v", got, body, err)
		}
	}
}

// 18.1: each header, whatever its numbers, has as many bytes.
func TestHeadSize(t *testing.T) {
	for _, n := range []int{0, 1, 255, 256, 1 << 20, 1 << 52, math.MaxInt, -1, math.MinInt} {
		for _, h := range []api.Header{{}, {Epoch: n}, {From: n}, {Seq: n}, {Epoch: n, From: n, Seq: n}} {
			if got := len(head(h)); got != headSize || headSize != 32 {
				t.Errorf("18.1: the header %v has %d bytes, not %d", h, got, headSize)
			}
		}
	}
}

// inside takes both ends, and nothing beyond them.
func TestInside(t *testing.T) {
	for _, c := range []struct {
		n, low, high int
		is           bool
	}{{1, 1, 3, true}, {2, 1, 3, true}, {3, 1, 3, true}, {0, 1, 3, false}, {4, 1, 3, false}, {math.MinInt, 1, 3, false}, {math.MaxInt, 1, 3, false}, {32, 32, 32, true}, {31, 32, 32, false}, {33, 32, 32, false}} {
		err := inside("part", c.n, c.low, c.high, errForm)
		if (err == nil) != c.is || !c.is && !errors.Is(err, errForm) {
			t.Errorf("inside of %d from %d to %d is %v", c.n, c.low, c.high, err)
		}
	}
}
