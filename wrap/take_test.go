package wrap_test

import (
	"fmt"
	"math"
	"math/rand"
	"slices"
	"strings"
	"testing"

	"deaddrop/api"
	"deaddrop/wrap"
)

// held are Epoch, Key; Epoch, Key; and so on.
func held(l ...any) []api.EpochKey {
	var out []api.EpochKey
	for i := 0; i+1 < len(l); i += 2 {
		out = append(out, api.EpochKey{Epoch: l[i].(int), Key: l[i+1].(string)})
	}
	return out
}

// keysOf are those of these epochs.
func keysOf(epochs ...int) []api.EpochKey {
	var out []api.EpochKey
	for _, n := range epochs {
		out = append(out, api.EpochKey{Epoch: n, Key: epochKey(secret, n)})
	}
	return out
}

// slowTake is Take, as the words of 17.3 say it.
func slowTake(log []api.Record, had []api.EpochKey, own string, id int, r api.Record) ([]api.Record, []api.EpochKey, api.Errno) {
	if !slowCheck(log) {
		return log, had, api.ErrArg
	}
	for i := 1; i < len(had); i++ {
		if had[i].Epoch <= had[i-1].Epoch {
			return log, had, api.ErrArg
		}
	}
	for _, old := range log {
		if old.Seq == r.Seq && same(old, r) {
			return log, had, api.ErrReplay
		}
		if old.Seq == r.Seq {
			return log, had, api.ErrFork
		}
	}
	if r.Seq > len(log)+1 {
		return log, had, api.ErrEpoch
	}
	longer := append(slices.Clone(log), r)
	if !slowCheck(longer) {
		return log, had, api.ErrFork
	}
	for _, k := range had {
		if k.Epoch == r.Seq-1 && r.Tag != slowTag(k.Key, r) {
			return log, had, api.ErrTag
		}
	}
	if id < 0 || id >= devs || !slowMembers(longer)[id] {
		return longer, had, api.OK
	}
	key, ok := slowOpen(own, r, id)
	if !ok {
		return log, had, api.ErrTag
	}
	return longer, append(slices.Clone(had), api.EpochKey{Epoch: r.Seq, Key: key}), api.OK
}

// heldTake tells the test whether Take tells what the slow way does; it tells what
// that is.
func heldTake(t *testing.T, what string, log []api.Record, had []api.EpochKey, own string, id int, r api.Record) ([]api.Record, []api.EpochKey, api.Errno) {
	t.Helper()
	l, k, e := wrap.Take(log, had, own, id, r)
	wantLog, wantKeys, want := slowTake(log, had, own, id, r)
	if e != want || !sameLog(l, wantLog) || !slices.Equal(k, wantKeys) {
		t.Errorf("17.3: %s: Take by %d tells %d records, %s, %d, not %d, %s, %d", what, id, len(l), short(k), e, len(wantLog), short(wantKeys), want)
	}
	return l, k, e
}

// takes tells the test that Take tells just this number, beside log and keys as
// they are, or, if it is OK, with a record more, and so many keys more.
func takes(t *testing.T, what string, log []api.Record, had []api.EpochKey, own string, id int, r api.Record, want api.Errno, more int) {
	t.Helper()
	l, k, e := heldTake(t, what, log, had, own, id, r)
	longer := log
	if want == api.OK {
		longer = append(slices.Clone(log), r)
	}
	if e != want || !sameLog(l, longer) || len(k) != len(had)+more || !slices.Equal(k[:len(had)], had) {
		t.Errorf("17.3: %s: Take by %d tells %d records, %s, %d, not %d, and %d keys more", what, id, len(l), short(k), e, want, more)
	}
}

// 17.3: log does not Check, whatever all else is.
func TestTakeBroken(t *testing.T) {
	log := chain(add, 0, add, 3, add, 1, revoke, 3)
	next := slowNext(secret, master, log, add, 4)
	for name, l := range broken() {
		for _, had := range [][]api.EpochKey{nil, keysOf(1), keysOf(2, 3, 4), keysOf(4, 3)} {
			for _, r := range append(slices.Clone(log), next, api.Record{}, rec(1, "", add, 0, ""), rec(50, hash, add, 0, tag), slowNext(secret, master, log[:1], add, 5)) {
				takes(t, name, l, had, ownOf(master, 3), 3, r, api.ErrArg, 0)
				takes(t, name, l, had, "", 9, r, api.ErrArg, 0)
			}
			if n := len(l); n > 0 {
				takes(t, name+", its last again", l, had, ownOf(master, 0), 0, l[n-1], api.ErrArg, 0)
				takes(t, name+", its first again", l, had, ownOf(master, 0), 0, l[0], api.ErrArg, 0)
			}
		}
	}
}

// unsorted are keys whose Epochs do not rise.
func unsorted() [][]api.EpochKey {
	return [][]api.EpochKey{
		keysOf(2, 2), keysOf(3, 2), keysOf(1, 2, 2), keysOf(1, 1, 2), keysOf(1, 3, 2), keysOf(2, 1, 3), keysOf(1, 2, 1), keysOf(1, 2, 3, 3), keysOf(0, 0), keysOf(0, -1),
		keysOf(3, 2, 1), held(2, "a", 2, "b"), held(5, "", 4, ""), held(1, "", 1, ""), held(math.MaxInt, "", math.MinInt, ""), held(math.MinInt, "", math.MinInt, ""),
		held(math.MaxInt, "", math.MaxInt, ""), held(1<<32, "", 1, ""), held(1, "", 256, "", 255, ""), slices.Repeat(keysOf(3), 50),
	}
}

// 17.3: keys are not by rising Epochs, whatever record it is.
func TestTakeUnsorted(t *testing.T) {
	log := chain(add, 0, add, 3, add, 1, revoke, 3)
	for _, had := range unsorted() {
		for i, r := range log {
			for n := range len(log) + 1 {
				takes(t, fmt.Sprint("record ", i, " behind ", n), log[:n], had, ownOf(master, 0), 0, r, api.ErrArg, 0)
			}
		}
		for _, r := range wrong() {
			takes(t, "what may not be", log, had, ownOf(master, 0), 0, r, api.ErrArg, 0)
		}
	}
}

// 17.3: keys that rise may be of any Epochs, and any bytes.
func TestTakeSorted(t *testing.T) {
	log := chain(add, 0, add, 3, add, 1)
	for _, had := range [][]api.EpochKey{
		nil, {}, keysOf(2), keysOf(1, 2), keysOf(1), keysOf(3), keysOf(0, 2), keysOf(2, 3), keysOf(2, 3, 4), keysOf(-5, -3, 0, 1, 2, 7, 50),
		held(math.MinInt, "x", 2, epochKey(secret, 2), math.MaxInt, "y"), held(0, "", 1, "", 3, "", 4, ""), held(1, rising(0, 100), 9, rising(0, 5000)), held(1<<32+2, "no key"),
	} {
		for _, id := range []int{0, 1, 3} {
			takes(t, "keys that rise", log[:2], had, ownOf(master, id), id, log[2], api.OK, 1)
			l, k, _ := wrap.Take(log[:2], had, ownOf(master, id), id, log[2])
			if want := append(slices.Clone(had), keysOf(3)...); !slices.Equal(k, want) || !sameLog(l, log) {
				t.Errorf("17.3: behind %s keys are %s", short(had), short(k))
			}
		}
		takes(t, "keys that rise", log[:2], had, "", 4, log[2], api.OK, 0)
	}
}

// turned are r, each with one part turned, by names.
func turned(r api.Record) map[string]api.Record {
	l := map[string]api.Record{}
	of := func(name string, do func(r *api.Record)) {
		other := r
		other.Wraps = slices.Clone(r.Wraps)
		do(&other)
		l[name] = other
	}
	of("Seq", func(r *api.Record) { r.Seq++ })
	of("Prev", func(r *api.Record) { r.Prev = hash })
	of("no Prev", func(r *api.Record) { r.Prev = "" })
	of("Kind", func(r *api.Record) { r.Kind = 3 - r.Kind })
	of("no Kind", func(r *api.Record) { r.Kind = 0 })
	of("Dev", func(r *api.Record) { r.Dev ^= 1 })
	of("no Dev", func(r *api.Record) { r.Dev = -1 })
	of("Tag", func(r *api.Record) { r.Tag = tag })
	of("Tag cut", func(r *api.Record) { r.Tag = "x" })
	of("no Tag", func(r *api.Record) { r.Tag = "" })
	of("no Wraps", func(r *api.Record) { r.Wraps = nil })
	of("Wraps more", func(r *api.Record) { r.Wraps = append(r.Wraps, api.Wrap{Dev: 7}) })
	if len(r.Wraps) > 0 {
		of("Wraps fewer", func(r *api.Record) { r.Wraps = r.Wraps[1:] })
		of("Wraps of another", func(r *api.Record) { r.Wraps[0].Dev++ })
		of("Wraps with another box", func(r *api.Record) { r.Wraps[0].Box = flipped(r.Wraps[0].Box, 0, 1) })
	}
	for name, other := range l {
		if same(other, r) {
			delete(l, name)
		}
	}
	return l
}

// 17.3: a record of log comes again: it is the same, or another; whatever keys
// there are, and whoever takes it. What may not be forks too, if its Seq is there.
func TestTakeAgain(t *testing.T) {
	for name, log := range chains() {
		for i, r := range log {
			what := fmt.Sprint(name, ", record ", i)
			for _, had := range [][]api.EpochKey{nil, keysOf(i), held(i, "another key"), keysOf(i, i+1, i+2)} {
				takes(t, what, log, had, ownOf(master, 0), 0, r, api.ErrReplay, 0)
				takes(t, what, log, had, "no key", -1, r, api.ErrReplay, 0)
			}
			empty := r
			empty.Wraps = append([]api.Wrap{}, r.Wraps...)
			takes(t, what+" in other memory", log, nil, ownOf(master, 0), 0, empty, api.ErrReplay, 0)
			for part, other := range turned(r) {
				if other.Seq == r.Seq {
					takes(t, what+", "+part, log, keysOf(i), ownOf(master, 0), 0, other, api.ErrFork, 0)
					takes(t, what+", "+part, log, nil, "", 8, other, api.ErrFork, 0)
				}
			}
			for _, by := range []int{1, 7} {
				other := log[(i+by)%len(log)]
				other.Seq = r.Seq
				if !same(other, r) {
					takes(t, what+" is another", log, nil, ownOf(master, 0), 0, other, api.ErrFork, 0)
				}
			}
		}
	}
	// No wraps and an empty list of them are one.
	log := []api.Record{rec(1, "", add, 0, "")}
	takes(t, "an empty list", log, nil, "", 0, rec(1, "", add, 0, "", []api.Wrap{}...), api.ErrReplay, 0)
}

// 17.3: Seq is beyond the next: whatever else the record is.
func TestTakeBeyond(t *testing.T) {
	for name, log := range chains() {
		all := append(slices.Clone(good()), wrong()...)
		for _, r := range append(all, slowNext(secret, master, log, add, 6)) {
			for _, seq := range []int{len(log) + 2, len(log) + 3, len(log) + 256, maxLog + 2, maxSeq, maxSeq + 1, 1 << 32, 1<<32 + len(log) + 1, math.MaxInt - 1, math.MaxInt} {
				r.Seq = seq
				takes(t, name, log, keysOf(len(log)), ownOf(master, 0), 0, r, api.ErrEpoch, 0)
			}
		}
	}
	log := chain(add, 0, add, 3, add, 1, revoke, 3)
	takes(t, "the next but one", log[:2], keysOf(2), ownOf(master, 3), 3, log[3], api.ErrEpoch, 0)
	takes(t, "the second first", nil, nil, ownOf(master, 0), 0, log[1], api.ErrEpoch, 0)
	takes(t, "the next", log[:2], keysOf(2), ownOf(master, 3), 3, log[2], api.OK, 1)
}

// 17.3: log with the record does not Check: it hangs on another, or does what it
// may not, or may not be, or has a Seq that there is not, or finds no room.
func TestTakeFork(t *testing.T) {
	for name, log := range chains() {
		next := slowNext(secret, master, log, add, 6)
		fork := func(what string, r api.Record) {
			t.Helper()
			for _, had := range [][]api.EpochKey{nil, keysOf(len(log)), held(len(log), "another key")} {
				takes(t, name+": "+what, log, had, ownOf(master, 0), 0, r, api.ErrFork, 0)
				takes(t, name+": "+what, log, had, "", 5, r, api.ErrFork, 0)
			}
		}
		for _, r := range wrong() {
			// One with a Seq that is beyond the next tells of that first.
			if r.Seq <= len(log)+1 {
				fork("what may not be", r)
			}
			r.Seq = len(log) + 1
			if !slowMay(r) {
				fork("what may not be, next", r)
			}
		}
		for _, seq := range []int{0, -1, -2, math.MinInt, -1 << 32, -1<<32 + len(log) + 1} {
			next.Seq = seq
			fork("no Seq", next)
		}
		next.Seq = len(log) + 1
		for _, prev := range []string{hash, strings.Repeat("\x00", hashSize), slowHash(next), ""} {
			if prev != next.Prev {
				other := next
				other.Prev = prev
				fork("on another", other)
			}
		}
		for dev := range devs {
			for _, kind := range []int{add, revoke} {
				r := slowNext(secret, master, log, kind, dev)
				if _, e := slowMake(secret, master, log, kind, dev); e != api.OK {
					fork(fmt.Sprint("kind ", kind, ", device ", dev), r)
				}
			}
		}
	}
	full := chainOf(secret, master, turns(maxLog, 5))
	takes(t, "the last that may be", full[:maxLog-1], keysOf(maxLog-1), ownOf(master, 0), 0, full[maxLog-1], api.OK, 1)
	takes(t, "no room", full, keysOf(maxLog), ownOf(master, 0), 0, slowNext(secret, master, full, revoke, 5), api.ErrFork, 0)
}

// tagged is r with the Tag of key.
func tagged(r api.Record, key string) api.Record {
	r.Tag = slowTag(key, r)
	return r
}

// 17.3: ErrTag by the key of the epoch ahead, for who is a member behind the record
// and for who is none; who has no such key asks no Tag.
func TestTakeTag(t *testing.T) {
	log := chain(add, 0, add, 3, add, 1, revoke, 3, add, 3)
	for i := 1; i < len(log); i++ {
		r, ahead := log[i], log[:i]
		right := epochKey(secret, i)
		for _, id := range []int{0, 1, 3, 4, -1, devs} {
			more := 0
			if id >= 0 && id < devs && slowMembers(log[:i+1])[id] {
				more = 1
			}
			own := ownOf(master, id)
			what := fmt.Sprint("record ", i)
			with := func(tag string) api.Record {
				other := r
				other.Tag = tag
				return other
			}
			for _, had := range [][]api.EpochKey{keysOf(i), keysOf(0, i, i+5), held(i-1, "x", i, right), held(i, right, i+1, "y")} {
				takes(t, what+" with the key", ahead, had, own, id, r, api.OK, more)
				wrongs := []string{"", tag, strings.Repeat("\x00", tagSize), slowTag("", r), slowTag(epochKey(secret, i+1), r), slowTag(epochKey(secret, i-1), r), slowTag(secret, r), slowMac(right, slowPut(r))[:tagSize], slowMac(right, slowPut(with("")))[tagSize:]}
				for at := range tagSize {
					wrongs = append(wrongs, flipped(r.Tag, at, 1), flipped(r.Tag, at, 128))
				}
				for _, other := range wrongs {
					takes(t, what+" with another Tag", ahead, had, own, id, with(other), api.ErrTag, 0)
				}
			}
			for _, had := range [][]api.EpochKey{nil, keysOf(i - 1), keysOf(i + 1), keysOf(i-1, i+1), held(-i, right), held(0, right, i+1, right)} {
				for _, other := range []string{r.Tag, "", tag, slowTag("x", r)} {
					takes(t, what+" without the key", ahead, had, own, id, with(other), api.OK, more)
				}
			}
			// Another key of that epoch: its Tag is asked.
			for _, key := range []string{"", "k", rising(0, keySize), rising(0, 64), rising(0, 65), epochKey(secret, i+1)} {
				takes(t, what+" by another key", ahead, held(i, key), own, id, r, api.ErrTag, 0)
				takes(t, what+" by another key, with its Tag", ahead, held(i, key), own, id, tagged(r, key), api.OK, more)
			}
		}
	}
}

// 17.3: ErrTag where id is a member behind the record, and Open says false.
func TestTakeShut(t *testing.T) {
	log := chain(add, 0, add, 3, add, 1, revoke, 3, add, 3)
	for i, r := range log {
		ahead := log[:i]
		for _, had := range [][]api.EpochKey{nil, keysOf(i), keysOf(i - 1)} {
			for dev, is := range slowMembers(log[:i+1]) {
				what, own := fmt.Sprint("record ", i), ownOf(master, dev)
				at := slices.IndexFunc(r.Wraps, func(w api.Wrap) bool { return w.Dev == dev })
				if i == 0 && len(had) > 0 && had[0].Epoch == 0 {
					// The key of an epoch that there is not asks the first one's Tag.
					takes(t, what, ahead, had, own, dev, r, api.ErrTag, 0)
					continue
				}
				if !is {
					// Who is none opens nothing: its key may be any, its wrap too.
					for _, own := range []string{own, "", "no key", ownOf(master, 0)} {
						takes(t, what+" for who is none", ahead, had, own, dev, r, api.OK, 0)
					}
					continue
				}
				takes(t, what, ahead, had, own, dev, r, api.OK, 1)
				for _, own := range []string{"", "no key", ownOf(master, (dev+1)%devs), flipped(own, 9, 1), own + own} {
					takes(t, what+" by another key", ahead, had, own, dev, r, api.ErrTag, 0)
				}
				for j, box := range []string{"", "no box", flipped(r.Wraps[at].Box, 0, 1), flipped(r.Wraps[at].Box, 47, 1), r.Wraps[at].Box + "x", r.Wraps[at].Box[1:],
					slowSeal(own, r.Seq, slowHead(r), ""), slowSeal(own, r.Seq, slowHead(r), rising(0, 31)), slowSeal(own, r.Seq, slowHead(r), rising(0, 33)),
					slowSeal(own, r.Seq+1, slowHead(r), rising(0, 32)), slowSeal(own, r.Seq, "", rising(0, 32)), slowSeal("x", r.Seq, slowHead(r), rising(0, 32))} {
					other := r
					other.Wraps = slices.Clone(r.Wraps)
					other.Wraps[at].Box = box
					if i > 0 {
						other = tagged(other, epochKey(secret, i))
					}
					takes(t, fmt.Sprint(what, " with box ", j), ahead, had, own, dev, other, api.ErrTag, 0)
				}
				other := r
				other.Wraps = slices.Delete(slices.Clone(r.Wraps), at, at+1)
				if i > 0 {
					other = tagged(other, epochKey(secret, i))
				}
				takes(t, what+" without its wrap", ahead, had, own, dev, other, api.ErrTag, 0)
			}
		}
	}
}

// 17.3: what is opened is the key, whatever it is, if it has KeySize bytes.
func TestTakeAnyKey(t *testing.T) {
	log := chain(add, 0, add, 3)
	for _, key := range []string{rising(9, keySize), strings.Repeat("\x00", keySize), epochKey("another", 3)} {
		r := slowNext(secret, master, log, add, 5)
		for i, w := range r.Wraps {
			r.Wraps[i].Box = slowSeal(ownOf(master, w.Dev), 3, slowHead(r), key)
		}
		r = tagged(r, epochKey(secret, 2))
		for _, id := range []int{0, 3, 5} {
			_, k, e := heldTake(t, "another key", log, keysOf(2), ownOf(master, id), id, r)
			if want := append(keysOf(2), held(3, key)...); e != api.OK || !slices.Equal(k, want) {
				t.Errorf("17.3: keys are %s, %d, not %s", short(k), e, short(want))
			}
		}
	}
}

// 17.3: the first record.
func TestTakeFirst(t *testing.T) {
	first := chain(add, 0)[0]
	own := ownOf(master, 0)
	for _, log := range [][]api.Record{nil, {}} {
		takes(t, "the first", log, nil, own, 0, first, api.OK, 1)
		takes(t, "the first, by another", log, nil, ownOf(master, 1), 1, first, api.OK, 0)
		takes(t, "the first, by another's key", log, nil, ownOf(master, 1), 0, first, api.ErrTag, 0)
		takes(t, "the first, by the key of 0 for another", log, nil, own, 1, first, api.OK, 0)
		takes(t, "the first with a Tag", log, nil, own, 0, tagged(first, "k"), api.OK, 1)
		takes(t, "the first with any Tag", log, keysOf(-1, 1), own, 0, tagged(first, "k"), api.OK, 1)
		// A key of epoch 0 is one of the epoch ahead.
		takes(t, "the first with no Tag, and a key of epoch 0", log, held(0, "k"), own, 0, first, api.ErrTag, 0)
		takes(t, "the first with a Tag, and a key of epoch 0", log, held(0, "k"), own, 0, tagged(first, "k"), api.OK, 1)
		takes(t, "the first with another Tag", log, held(0, "k"), own, 0, tagged(first, "l"), api.ErrTag, 0)
		for _, r := range []api.Record{{}, chain(add, 1)[0], chain(revoke, 0)[0], rec(1, hash, add, 0, ""), rec(0, "", add, 0, "")} {
			takes(t, "no first one", log, nil, own, 0, r, api.ErrFork, 0)
		}
		takes(t, "without wraps", log, nil, own, 0, rec(1, "", add, 0, ""), api.ErrTag, 0)
		takes(t, "without wraps, by another", log, nil, own, 3, rec(1, "", add, 0, ""), api.OK, 0)
	}
	_, k, _ := wrap.Take(nil, nil, own, 0, first)
	if !slices.Equal(k, keysOf(1)) {
		t.Errorf("17.3: behind the first keys are %s", short(k))
	}
}

// 17.3: where several of its errors would hold, the first that it names counts.
func TestTakeOrder(t *testing.T) {
	log := chain(add, 0, add, 3, add, 1, revoke, 3)
	full := chainOf(secret, master, turns(maxLog, 5))
	own := ownOf(master, 3)
	fork := slowNext(secret, master, log[:1], add, 4)
	beyond := rec(9, "x", 9, 9, "x")
	for _, c := range []struct {
		what string
		log  []api.Record
		had  []api.EpochKey
		own  string
		id   int
		r    api.Record
		want api.Errno
	}{
		{"no chain, a replay", log[1:], nil, own, 3, log[1], api.ErrArg},
		{"no chain, a fork", log[1:], nil, own, 3, fork, api.ErrArg},
		{"no chain, beyond", log[1:], nil, own, 3, beyond, api.ErrArg},
		{"keys that fall, a replay", log, keysOf(3, 2), own, 3, log[1], api.ErrArg},
		{"keys that fall, a fork", log, keysOf(3, 2), own, 3, fork, api.ErrArg},
		{"keys that fall, beyond", log, keysOf(3, 2), own, 3, beyond, api.ErrArg},
		{"keys twice, another Tag", log[:2], keysOf(2, 2), own, 3, tagged(log[2], "x"), api.ErrArg},
		{"a replay with a Tag by another key", log, held(1, "another"), own, 3, log[1], api.ErrReplay},
		{"a replay with no key", log, nil, "", 3, log[1], api.ErrReplay},
		{"a replay behind a full log", full, nil, own, 3, full[7], api.ErrReplay},
		{"a fork with a Tag by another key", log, held(1, "another"), own, 3, fork, api.ErrFork},
		{"a fork with no key", log, nil, "", 5, fork, api.ErrFork},
		{"a fork that may not be", log, nil, own, 3, rec(2, "", add, 3, ""), api.ErrFork},
		{"a fork behind a full log", full, nil, own, 3, fork, api.ErrFork},
		{"beyond, and may not be", log, nil, own, 3, beyond, api.ErrEpoch},
		{"beyond, with a Tag by another key", log[:2], held(3, "another"), own, 3, log[3], api.ErrEpoch},
		{"beyond a full log", full, nil, own, 3, rec(42, hash, add, 1, tag), api.ErrEpoch},
		{"behind a full log", full, held(40, "another"), own, 3, rec(41, slowHash(full[39]), add, 1, tag), api.ErrFork},
		{"below, with a Tag by another key", log, held(-1, "another"), own, 3, rec(0, hash, add, 1, tag), api.ErrFork},
		{"on another, with a Tag by another key", log, held(4, "another"), own, 3, rec(5, hash, add, 3, tag), api.ErrFork},
		{"added twice, with a Tag by another key", log, held(4, "another"), own, 1, rec(5, slowHash(log[3]), add, 1, tag), api.ErrFork},
		{"added twice, with no wrap", log, nil, own, 1, rec(5, slowHash(log[3]), add, 1, tag), api.ErrFork},
		{"a Tag by another key, with no wrap", log, held(4, "another"), own, 3, rec(5, slowHash(log[3]), add, 3, tag), api.ErrTag},
		{"no wrap", log, nil, own, 3, rec(5, slowHash(log[3]), add, 3, tag), api.ErrTag},
		{"no wrap, by who is none", log, nil, own, 5, rec(5, slowHash(log[3]), add, 3, tag), api.OK},
	} {
		takes(t, c.what, c.log, c.had, c.own, c.id, c.r, c.want, 0)
	}
}

// 17.3: a device that takes all records of a chain in order has just the keys of
// the epochs in which it is a member. 17.4: of all others it has none.
func TestTakeAll(t *testing.T) {
	logs := chains()
	logs["in, out, in"] = chain(add, 0, add, 3, revoke, 3, add, 1, add, 3, revoke, 1, revoke, 3, add, 3)
	for name, whole := range logs {
		if name == "of other keys" || name == "without any keys" {
			continue
		}
		for id := -1; id <= devs; id++ {
			var log []api.Record
			var had, want []api.EpochKey
			for i, r := range whole {
				l, k, e := wrap.Take(log, had, ownOf(master, id), id, r)
				if e != api.OK || !sameLog(l, whole[:i+1]) {
					t.Fatalf("17.3: %s: %d takes record %d: %d records, %d", name, id, i, len(l), e)
				}
				if id >= 0 && id < devs && slowMembers(whole[:i+1])[id] {
					want = append(want, keysOf(i+1)...)
				}
				if !slices.Equal(k, want) {
					t.Fatalf("17.3: %s: behind record %d the keys of %d are %s, not %s", name, i, id, short(k), short(want))
				}
				log, had = l, k
				// All that came already are replays, the next but one is beyond.
				if again, keys, e := wrap.Take(log, had, ownOf(master, id), id, whole[i/2]); e != api.ErrReplay || !sameLog(again, log) || !slices.Equal(keys, had) {
					t.Errorf("17.3: %s: %d takes record %d again: %d", name, id, i/2, e)
				}
				if i+2 < len(whole) {
					takes(t, name, log, had, ownOf(master, id), id, whole[i+2], api.ErrEpoch, 0)
				}
			}
		}
	}
}

// 17.3: the epochs of a device that is let in, out, and in again.
func TestTakeInAndOut(t *testing.T) {
	whole := chain(add, 0, add, 3, add, 1, revoke, 3, revoke, 1, add, 3, add, 1, revoke, 3, add, 3)
	for id, want := range map[int][]int{0: {1, 2, 3, 4, 5, 6, 7, 8, 9}, 1: {3, 4, 7, 8, 9}, 3: {2, 3, 6, 7, 9}, 2: nil, 7: nil, -1: nil, 8: nil} {
		var log []api.Record
		var had []api.EpochKey
		for _, r := range whole {
			var e api.Errno
			if log, had, e = wrap.Take(log, had, ownOf(master, id), id, r); e != api.OK {
				t.Fatalf("17.3: %d takes record %d: %d", id, r.Seq, e)
			}
		}
		if !slices.Equal(had, keysOf(want...)) || !sameLog(log, whole) {
			t.Errorf("17.3: the keys of %d are %s, not those of %v", id, short(had), want)
		}
	}
}

// 17.4: who is no member behind a record gets no key of its epoch: not by Take,
// even if there is a wrap for it, nor by Open of what Make tells; on all chains of
// few deeds.
func TestNoMemberNoKey(t *testing.T) {
	level := [][]api.Record{nil}
	for range 4 {
		var next [][]api.Record
		for _, log := range level {
			for _, d := range deeds(add, 0, add, 1, revoke, 1, add, 6, revoke, 6, add, 7, revoke, 7) {
				r, e := wrap.Make(secret, master, log, d.kind, d.dev)
				if e != api.OK {
					continue
				}
				next = append(next, append(slices.Clone(log), r))
				for dev, is := range slowMembers(append(slices.Clone(log), r)) {
					for _, had := range [][]api.EpochKey{nil, keysOf(len(log))} {
						if len(log) == 0 && had != nil {
							continue
						}
						_, k, e := wrap.Take(log, had, ownOf(master, dev), dev, r)
						if e != api.OK || is != (len(k) > len(had)) || is && k[len(had)].Key != epochKey(secret, r.Seq) {
							t.Errorf("17.4: behind %s %d takes %s: %s, %d", short(log), dev, short(r), short(k), e)
						}
					}
					if is {
						continue
					}
					for other := range devs {
						shut(t, "who is none", ownOf(master, dev), r, other)
						shut(t, "who is none", ownOf(master, other), r, dev)
					}
					// A wrap for who is none, as nobody makes it: Take does not look.
					forged := r
					forged.Wraps = append(slices.Clone(r.Wraps), api.Wrap{Dev: dev, Box: slowSeal(ownOf(master, dev), r.Seq, slowHead(r), epochKey(secret, r.Seq))})
					slices.SortFunc(forged.Wraps, func(a, b api.Wrap) int { return a.Dev - b.Dev })
					takes(t, "a wrap for who is none", log, nil, ownOf(master, dev), dev, forged, api.OK, 0)
				}
			}
		}
		level = next
	}
	if len(level) != 27 {
		t.Errorf("%d chains", len(level))
	}
}

// 17.3: all of these logs, keys, devices and records by one another.
func TestTakeAnything(t *testing.T) {
	whole := chain(add, 0, add, 3, add, 1, revoke, 3, add, 3)
	logs := [][]api.Record{nil, whole[:1], whole[:2], whole[:3], whole[:4], whole, whole[1:], {whole[0], whole[2]}}
	hads := append([][]api.EpochKey{nil, held(2, "x", 3, "y")}, keysOf(0), keysOf(1), keysOf(2), keysOf(3), keysOf(4), keysOf(1, 2, 3, 4, 5), keysOf(3, 2), held(math.MinInt, "", 1, "x"))
	records := append(slices.Clone(whole), wrong()[0], wrong()[9], rec(3, slowHash(whole[1]), add, 4, ""), tagged(rec(3, slowHash(whole[1]), revoke, 3, ""), epochKey(secret, 2)))
	for i := range whole {
		for _, r := range turned(whole[i]) {
			records = append(records, r)
		}
	}
	count := map[api.Errno]int{}
	for _, log := range logs {
		for _, had := range hads {
			for _, r := range records {
				for _, id := range []int{0, 3, 5, -1} {
					_, _, e := heldTake(t, "by one another", log, had, ownOf(master, id), id, r)
					count[e]++
				}
				_, _, e := heldTake(t, "by one another", log, had, "", 3, r)
				count[e]++
			}
			if t.Failed() {
				return
			}
		}
	}
	for _, e := range []api.Errno{api.OK, api.ErrArg, api.ErrEpoch, api.ErrTag, api.ErrReplay, api.ErrFork} {
		if count[e] < 100 {
			t.Errorf("%d was told %d times", e, count[e])
		}
	}
}

// randomRecord is one of log, or the next of it, turned or not.
func randomRecord(r *rand.Rand, log []api.Record) api.Record {
	one := slowNext(secret, master, log, r.Intn(2)+add, r.Intn(devs))
	if n := len(log); n > 0 && r.Intn(4) == 0 {
		one = log[r.Intn(n)]
	}
	if r.Intn(3) > 0 {
		return one
	}
	l := turned(one)
	var names []string
	for name := range l {
		names = append(names, name)
	}
	slices.Sort(names)
	return l[names[r.Intn(len(names))]]
}

// 17.1 to 17.3: devices that take records at random, and go on with what they are
// told.
func TestTakeRandom(t *testing.T) {
	r := rand.New(rand.NewSource(17))
	longest := 0
	for range 80 {
		var log []api.Record
		var had []api.EpochKey
		id := r.Intn(devs+2) - 1
		for range 60 {
			kind, dev := r.Intn(2)+add, r.Intn(devs)
			one, e := wrap.Make(secret, master, log, kind, dev)
			heldMake(t, "at random", secret, master, log, kind, dev)
			if e != api.OK || r.Intn(3) == 0 {
				one = randomRecord(r, log)
			}
			own := ownOf(master, id)
			if r.Intn(20) == 0 {
				own = "another"
			}
			log, had, _ = heldTake(t, "at random", log, had, own, id, one)
		}
		longest = max(longest, len(log))
		if t.Failed() {
			return
		}
	}
	if longest < 25 {
		t.Errorf("the longest log has %d", longest)
	}
}
