package wrap_test

import (
	"fmt"
	"math"
	"slices"
	"strings"
	"testing"

	"deaddrop/api"
	"deaddrop/chacha"
	"deaddrop/wrap"
)

// slowOpen is Open, as the words of 17.2 say it.
func slowOpen(own string, r api.Record, dev int) (string, bool) {
	for _, w := range r.Wraps {
		if w.Dev != dev {
			continue
		}
		if len(w.Box) != keySize+tagSize {
			return "", false
		}
		// Sealed twice is open again: the stream is the same.
		pair := pairOf(own)
		key := string(chacha.Xor(pair[:keySize], nonce(r.Seq), 1, []byte(w.Box[:keySize])))
		return key, slowSeal(own, r.Seq, slowHead(r), key) == w.Box
	}
	return "", false
}

// opens tells the test that r opens to key for who has own.
func opens(t *testing.T, what, own string, r api.Record, dev int, key string) {
	t.Helper()
	if got, ok := wrap.Open(own, r, dev); !ok || got != key {
		t.Errorf("17.2: %s: for %d it opens to %x, %v, not %x", what, dev, got, ok, key)
	}
}

// shut tells the test that r opens to nothing for who has own.
func shut(t *testing.T, what, own string, r api.Record, dev int) {
	t.Helper()
	if got, ok := wrap.Open(own, r, dev); ok || got != "" {
		t.Errorf("17.2: %s: for %d it opens to %x, %v", what, dev, got, ok)
	}
}

// 17.2: each member's wrap opens by its own key to the key of the epoch, and to
// nothing by other keys, or for other devices. 17.4: for who is none it opens to
// nothing, whatever key it has.
func TestOpen(t *testing.T) {
	var owns []string
	for dev := range devs {
		owns = append(owns, ownOf(master, dev))
	}
	for name, log := range chains() {
		if name == "of other keys" || name == "without any keys" {
			continue
		}
		for i, r := range log {
			what := fmt.Sprint(name, ", record ", i)
			is := slowMembers(log[:i+1])
			for dev := range devs {
				if is[dev] {
					opens(t, what, owns[dev], r, dev, epochKey(secret, i+1))
				} else {
					shut(t, "17.4: who is none: "+what, owns[dev], r, dev)
				}
				// Each box by all the keys that there are but the one.
				for _, own := range owns {
					if own != owns[dev] {
						shut(t, what+" by another's key", own, r, dev)
					}
				}
				for _, own := range []string{"", master, secret, pairOf(owns[dev]), epochKey(secret, i+1), owns[dev][1:], owns[dev] + "\x00", flipped(owns[dev], 0, 1), flipped(owns[dev], 31, 128), ownOf("another", dev)} {
					shut(t, what+" by another key", own, r, dev)
				}
			}
			for _, dev := range strangers() {
				shut(t, what, ownOf(master, dev), r, dev)
				shut(t, what, owns[0], r, dev)
			}
		}
	}
}

// 17.2: of a record with another Seq, Prev, Kind or Dev nothing opens; but Wraps of
// others and the Tag are not in its Head: whatever they are, it opens.
func TestOpenTurned(t *testing.T) {
	log := chain(add, 0, add, 3, add, 1, revoke, 3, add, 3)
	for i, r := range log {
		what := fmt.Sprint("record ", i)
		own, key := ownOf(master, 0), epochKey(secret, i+1)
		of := func(do func(r *api.Record)) api.Record {
			other := r
			do(&other)
			return other
		}
		for _, n := range []int{0, 1, 2, 3, 4, 5, 6, 7, 40, 41, 256, maxSeq, maxSeq + 1, -1, -i, 1<<32 + i + 1, math.MaxInt, math.MinInt} {
			if n != r.Seq {
				shut(t, what+" with another Seq", own, of(func(r *api.Record) { r.Seq = n }), 0)
			}
		}
		for _, prev := range []string{"", hash, strings.Repeat("\x00", hashSize), slowHash(r), r.Prev + "\x00", "x"} {
			if prev != r.Prev {
				shut(t, what+" with another Prev", own, of(func(r *api.Record) { r.Prev = prev }), 0)
			}
		}
		for at := range r.Prev {
			shut(t, what+" with a byte of Prev turned", own, of(func(r *api.Record) { r.Prev = flipped(r.Prev, at, 1) }), 0)
		}
		for _, kind := range append(kinds(), 3-r.Kind) {
			shut(t, what+" with another Kind", own, of(func(r *api.Record) { r.Kind = kind }), 0)
		}
		for _, dev := range append(strangers(), 0, 1, 2, 3, 4, 5, 6, 7) {
			if dev != r.Dev {
				shut(t, what+" with another Dev", own, of(func(r *api.Record) { r.Dev = dev }), 0)
			}
		}
		for _, other := range []string{"", tag, strings.Repeat("\x00", tagSize)} {
			opens(t, what+" with another Tag", own, of(func(r *api.Record) { r.Tag = other }), 0, key)
		}
		opens(t, what+" with one wrap", own, of(func(r *api.Record) { r.Wraps = r.Wraps[:1] }), 0, key)
		opens(t, what+" with more wraps", own, of(func(r *api.Record) { r.Wraps = append(slices.Clip(r.Wraps), wraps(7, "x")...) }), 0, key)
		shut(t, what+" with no wrap", own, of(func(r *api.Record) { r.Wraps = nil }), 0)
		shut(t, what+" without the wrap", own, of(func(r *api.Record) { r.Wraps = r.Wraps[1:] }), 0)
		for j, other := range log {
			// What another record has for the same device, in this one.
			if j != i {
				shut(t, what+" with the box of another", own, of(func(r *api.Record) { r.Wraps = other.Wraps }), 0)
			}
		}
	}
	// Of one that may not be the Head is empty: what was sealed around another is
	// no more what it was.
	r := log[2]
	for name, other := range map[string]api.Record{
		"a Tag too short": rec(r.Seq, r.Prev, r.Kind, r.Dev, "x", r.Wraps...), "a Tag too long": rec(r.Seq, r.Prev, r.Kind, r.Dev, r.Tag+"x", r.Wraps...),
		"wraps not rising": rec(r.Seq, r.Prev, r.Kind, r.Dev, r.Tag, append(slices.Clip(r.Wraps), wraps(0, "x")...)...),
		"a wrap of no one": rec(r.Seq, r.Prev, r.Kind, r.Dev, r.Tag, append(slices.Clip(r.Wraps), wraps(8, "x")...)...),
		"a box too long":   rec(r.Seq, r.Prev, r.Kind, r.Dev, r.Tag, append(slices.Clip(r.Wraps), wraps(7, rising(0, maxBox+1))...)...),
	} {
		shut(t, name, ownOf(master, 0), other, 0)
	}
}

// 17.2: a wrap with a byte turned, cut or longer, or swapped with another.
func TestOpenBoxes(t *testing.T) {
	r := chain(add, 0, add, 3, add, 1)[2]
	for i, dev := range []int{0, 1, 3} {
		own, box := ownOf(master, dev), r.Wraps[i].Box
		with := func(box string) api.Record {
			other := r
			other.Wraps = slices.Clone(r.Wraps)
			other.Wraps[i].Box = box
			return other
		}
		opens(t, "the box", own, with(strings.Clone(box)), dev, epochKey(secret, 3))
		for at := range box {
			for bit := range 8 {
				shut(t, fmt.Sprint("turned at ", at), own, with(flipped(box, at, 1<<bit)), dev)
			}
			shut(t, "its beginning", own, with(box[:at]), dev)
			shut(t, "its end", own, with(box[at+1:]), dev)
			shut(t, "a byte left out", own, with(box[:at]+box[at+1:]), dev)
			shut(t, "a byte put in", own, with(box[:at]+"\x00"+box[at:]), dev)
		}
		for _, other := range []string{box + "\x00", "\x00" + box, box + box, rising(0, 48), strings.Repeat("\x00", 48), epochKey(secret, 3), epochKey(secret, 3) + box[32:], rising(0, maxBox), rising(0, 1000)} {
			shut(t, "another box", own, with(other), dev)
		}
		for j := range r.Wraps {
			if j != i {
				shut(t, "another's box", own, with(r.Wraps[j].Box), dev)
				shut(t, "the box in another's place", own, r, r.Wraps[j].Dev)
			}
		}
	}
}

// 17.2: the first wrap of that dev counts, whatever comes behind it; such records
// may not be, and so have an empty Head, but the words ask nothing else.
func TestOpenFirst(t *testing.T) {
	own, key, other := ownOf(master, 3), rising(7, keySize), rising(99, keySize)
	r := rec(2, hash, add, 3, tag)
	right, behind, around := slowSeal(own, 2, "", key), slowSeal(own, 2, "", other), slowSeal(own, 2, slowHead(r), other)
	of := func(l ...any) api.Record {
		return rec(2, hash, add, 3, tag, wraps(l...)...)
	}
	for name, r := range map[string]api.Record{
		"twice":                 of(3, right, 3, right),
		"another behind":        of(3, right, 3, behind),
		"none behind":           of(3, right, 3, "no box"),
		"an empty one behind":   of(3, right, 3, ""),
		"one around its Head":   of(3, right, 3, around),
		"others around":         of(7, behind, 0, "x", 3, right, 1, "y", 3, behind),
		"others that fall":      of(5, "x", 4, "y", 3, right),
		"device -1 ahead":       of(-1, behind, 3, right),
		"many ahead and behind": of(2, behind, 2, behind, 4, behind, 0, behind, 3, right, 2, "", 3, behind, 3, behind),
	} {
		if slowMay(r) {
			t.Errorf("%s: it may be", name)
		}
		opens(t, name, own, r, 3, key)
	}
	shut(t, "one that does not open, then one that does", own, of(3, "no box", 3, right), 3)
	shut(t, "an empty one, then one that does", own, of(3, "", 3, right), 3)
	shut(t, "another's, then the own", own, of(3, slowSeal(ownOf(master, 2), 2, "", key), 3, right), 3)
	shut(t, "one too short, then one that does", own, of(3, slowSeal(own, 2, "", key[1:]), 3, right), 3)
	shut(t, "one around its Head, then one that does", own, of(3, around, 3, right), 3)
	opens(t, "another key first", own, of(3, behind, 3, right), 3, other)
}

// 17.2: by its words a record that may not be, which has an empty Head, opens if
// it was sealed around nothing, and so does a wrap of a device that there is not.
func TestOpenWrong(t *testing.T) {
	own, key := ownOf(master, 3), rising(7, keySize)
	for _, r := range wrong() {
		r.Wraps = append(wraps(3, slowSeal(own, r.Seq, "", key)), r.Wraps...)
		if !slowMay(r) {
			opens(t, "what may not be", own, r, 3, key)
		}
		r.Wraps[0].Box = slowSeal(own, r.Seq, string(putText(putNum(putHead(nil, 4), r.Seq, r.Kind, r.Dev), r.Prev)), key)
		if !slowMay(r) {
			shut(t, "what may not be, sealed around what would be its Head", own, r, 3)
		}
	}
	for _, dev := range strangers() {
		r := rec(2, hash, add, 3, tag, wraps(dev, slowSeal(own, 2, "", key))...)
		opens(t, "a stranger's wrap", own, r, dev, key)
		shut(t, "a stranger's wrap", own, r, 3)
	}
}

// 17.2: what opens, but has not KeySize bytes, is none.
func TestOpenSizes(t *testing.T) {
	own := ownOf(master, 3)
	for n := range maxBox + 1 {
		r := rec(2, hash, add, 3, tag)
		plain := rising(5, n)
		r.Wraps = wraps(0, "x", 3, slowSeal(own, 2, slowHead(r), plain), 7, "y")
		if n == keySize {
			opens(t, "a key", own, r, 3, plain)
		} else {
			shut(t, fmt.Sprint(n, " bytes"), own, r, 3)
		}
	}
}

// 17.2: own may be of every length, even empty; and of that length it is the whole
// that counts.
func TestOpenKeys(t *testing.T) {
	key := rising(7, keySize)
	for _, n := range lengths() {
		own := rising(1, n)
		r := rec(9, hash, revoke, 3, "")
		r.Wraps = wraps(5, slowSeal(own, 9, slowHead(r), key))
		opens(t, fmt.Sprint("an own key of ", n), own, r, 5, key)
		if n > 0 {
			shut(t, fmt.Sprint("an own key of ", n, ", turned"), flipped(own, n-1, 1), r, 5)
			shut(t, fmt.Sprint("an own key of ", n, ", turned"), flipped(own, 0, 1), r, 5)
		}
		shut(t, "no wrap of it", own, r, 4)
	}
}

// 17.2: any keys are opened, not only those that Make seals.
func TestOpenAny(t *testing.T) {
	for _, key := range []string{strings.Repeat("\x00", keySize), strings.Repeat("\xff", keySize), rising(200, keySize)} {
		for seq := range 300 {
			r := rec(seq+1, hash, add, seq%devs, tag)
			own := ownOf("any", seq)
			r.Wraps = wraps(seq%devs, slowSeal(own, seq+1, slowHead(r), key))
			opens(t, "any key", own, r, seq%devs, key)
			shut(t, "any key", own, r, (seq+1)%devs)
		}
	}
}
