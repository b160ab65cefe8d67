package wrap_test

import (
	"crypto/hmac"
	"crypto/sha256"
	"encoding/binary"
	"encoding/hex"
	"fmt"
	"math"
	"slices"
	"strings"
	"testing"

	"deaddrop/api"
	"deaddrop/chacha"
	"deaddrop/member"
	"deaddrop/wrap"
)

const (
	devs     = 8
	maxLog   = 40
	maxSeq   = 1 << 20
	maxBox   = 200
	hashSize = 32
	keySize  = 32
	pairSize = 64
	tagSize  = 16

	add    = api.RAdd
	revoke = api.RRevoke

	secret = "some secret"
	master = "some master"
	hash   = "0123456789abcdef0123456789ABCDEF"
	tag    = "tag of 16 bytes."
)

// wraps are Dev, Box; Dev, Box; and so on.
func wraps(l ...any) []api.Wrap {
	var out []api.Wrap
	for i := 0; i+1 < len(l); i += 2 {
		out = append(out, api.Wrap{Dev: l[i].(int), Box: l[i+1].(string)})
	}
	return out
}

// rec is a record.
func rec(seq int, prev string, kind, dev int, tag string, l ...api.Wrap) api.Record {
	return api.Record{Seq: seq, Prev: prev, Kind: kind, Dev: dev, Wraps: l, Tag: tag}
}

// rising is n bytes: from, from and 1, and so on.
func rising(from byte, n int) string {
	b := make([]byte, n)
	for i := range b {
		b[i] = from + byte(i)
	}
	return string(b)
}

// flipped is s with another byte at a place: xor by.
func flipped(s string, at int, by byte) string {
	b := []byte(s)
	b[at] ^= by
	return string(b)
}

// putNum, putText and putHead write wires anew, by the library's numbers.
func putNum(b []byte, l ...int) []byte {
	for _, n := range l {
		b = binary.BigEndian.AppendUint64(append(b, 1), uint64(n))
	}
	return b
}

func putText(b []byte, s string) []byte {
	return append(binary.BigEndian.AppendUint32(append(b, 2), uint32(len(s))), s...)
}

func putHead(b []byte, n int) []byte {
	return binary.BigEndian.AppendUint32(append(b, 3), uint32(n))
}

// slowPut is the Put of r, which may be.
func slowPut(r api.Record) string {
	b := putNum(putHead(nil, 6), r.Seq)
	b = putNum(putText(b, r.Prev), r.Kind, r.Dev)
	b = putHead(b, len(r.Wraps))
	for _, w := range r.Wraps {
		b = putText(putNum(putHead(b, 2), w.Dev), w.Box)
	}
	return string(putText(b, r.Tag))
}

// slowHead is the Head of r; of what may not be nothing.
func slowHead(r api.Record) string {
	if !slowMay(r) {
		return ""
	}
	return string(putText(putNum(putHead(nil, 4), r.Seq, r.Kind, r.Dev), r.Prev))
}

// slowHash is the Hash of r, which may be.
func slowHash(r api.Record) string {
	sum := sha256.Sum256([]byte(slowPut(r)))
	return string(sum[:])
}

// slowMay tells whether r may be, as the words of 15.1 say it.
func slowMay(r api.Record) bool {
	if r.Seq < 1 || r.Seq > maxSeq || r.Kind < 1 || r.Kind > 2 || r.Dev < 0 || r.Dev > devs-1 {
		return false
	}
	last := -1
	for _, w := range r.Wraps {
		if w.Dev <= last || w.Dev > devs-1 || len(w.Box) > maxBox {
			return false
		}
		last = w.Dev
	}
	if len(r.Prev) != hashSize && (r.Seq != 1 || r.Prev != "") {
		return false
	}
	return len(r.Tag) == tagSize || r.Tag == ""
}

// slowMembers is who is one behind all of log, by devices.
func slowMembers(log []api.Record) (is [devs]bool) {
	for _, r := range log {
		is[r.Dev] = r.Kind == add
	}
	return is
}

// slowCheck tells whether log is a chain, as the words of 15.2 say it.
func slowCheck(log []api.Record) bool {
	prev := ""
	for i, r := range log {
		if !slowMay(r) || r.Seq != i+1 || r.Prev != prev {
			return false
		}
		prev = slowHash(r)
		is := slowMembers(log[:i])[r.Dev]
		if i == 0 && (r.Kind != add || r.Dev != 0) || (r.Kind == add) == is || r.Kind == revoke && r.Dev == 0 {
			return false
		}
	}
	return len(log) <= maxLog
}

// slowMac is HMAC-SHA256 by the library.
func slowMac(key string, parts ...string) string {
	h := hmac.New(sha256.New, []byte(key))
	h.Write([]byte(strings.Join(parts, "")))
	return string(h.Sum(nil))
}

// slowKey is n bytes of 3.2 with the salt of all keys.
func slowKey(key, info string, n int) string {
	p, last, all := slowMac("deaddrop", key), "", ""
	for i := byte(1); len(all) < n; i++ {
		last = slowMac(p, last, info, string([]byte{i}))
		all += last
	}
	return all[:n]
}

// ownOf, epochKey and pairOf are Own, Epoch and Wrap of 14.1.
func ownOf(master string, dev int) string {
	return slowKey(master, fmt.Sprint("own ", dev), keySize)
}

func epochKey(secret string, epoch int) string {
	return slowKey(secret, fmt.Sprint("epoch ", epoch), keySize)
}

func pairOf(own string) string {
	return slowKey(own, "wrap", pairSize)
}

// nonce is that of n.
func nonce(n int) string {
	return "\x00\x00\x00\x00" + string(binary.BigEndian.AppendUint64(nil, uint64(n)))
}

// slowSeal is plain, sealed for who has own, as the words of 6.1 say it.
func slowSeal(own string, seq int, ad, plain string) string {
	pair := pairOf(own)
	c := string(chacha.Xor(pair[:keySize], nonce(seq), 1, []byte(plain)))
	count := string(binary.BigEndian.AppendUint64(nil, uint64(len(ad))))
	return c + slowMac(pair[keySize:], count, ad, nonce(seq), c)[:tagSize]
}

// slowTag is the tag of r by key, as the words of 17.1 say it.
func slowTag(key string, r api.Record) string {
	if !slowMay(r) {
		return ""
	}
	r.Tag = ""
	return slowMac(key, slowPut(r))[:tagSize]
}

// slowNext is the record behind log, which is a chain, whatever it is to do.
func slowNext(secret, master string, log []api.Record, kind, dev int) api.Record {
	r := rec(len(log)+1, "", kind, dev, "")
	if len(log) > 0 {
		r.Prev = slowHash(log[len(log)-1])
	}
	for one, is := range slowMembers(append(slices.Clone(log), r)) {
		if is {
			r.Wraps = append(r.Wraps, api.Wrap{Dev: one, Box: slowSeal(ownOf(master, one), r.Seq, slowHead(r), epochKey(secret, r.Seq))})
		}
	}
	if len(log) > 0 {
		r.Tag = slowTag(epochKey(secret, r.Seq-1), r)
	}
	return r
}

// slowMake is Make, as the words of 17.1 say it.
func slowMake(secret, master string, log []api.Record, kind, dev int) (api.Record, api.Errno) {
	if kind != add && kind != revoke || dev < 0 || dev > devs-1 || !slowCheck(log) {
		return api.Record{}, api.ErrArg
	}
	// Of a chain that has room, of which this dev is no member, or one: so that
	// none of the three errors that come later can be.
	if len(log) == 0 && (kind == revoke || dev > 0) || kind == revoke && dev == 0 {
		return api.Record{}, api.ErrArg
	}
	is := slowMembers(log)[dev]
	switch {
	case kind == add && is:
		return api.Record{}, api.ErrHave
	case kind == revoke && !is:
		return api.Record{}, api.ErrNone
	case len(log) == maxLog:
		return api.Record{}, api.ErrFull
	}
	return slowNext(secret, master, log, kind, dev), api.OK
}

// deed is what a record does: who comes, or goes.
type deed struct{ kind, dev int }

// deeds are Kind, Dev; Kind, Dev; and so on.
func deeds(n ...int) []deed {
	var l []deed
	for i := 0; i+1 < len(n); i += 2 {
		l = append(l, deed{n[i], n[i+1]})
	}
	return l
}

// chainOf are records of these deeds, one behind the other, by these keys; they
// may be no chain by what they do.
func chainOf(secret, master string, l []deed) []api.Record {
	var log []api.Record
	for _, d := range l {
		log = append(log, slowNext(secret, master, log, d.kind, d.dev))
	}
	return log
}

func chain(l ...int) []api.Record {
	return chainOf(secret, master, deeds(l...))
}

// long are n deeds: all devices come, then one by one goes, and comes again.
func long(n int) []deed {
	var l []deed
	for i := range n {
		d := deed{add, i}
		if i >= devs {
			d = deed{revoke - i%2, (i-devs)/2%(devs-1) + 1}
		}
		l = append(l, d)
	}
	return l
}

// turns are n deeds: device 0 comes, then one other comes and goes.
func turns(n, dev int) []deed {
	l := deeds(add, 0)
	for len(l) < n {
		l = append(l, deed{add, dev}, deed{revoke, dev})
	}
	return l[:n]
}

// same tells whether a and b are alike in all.
func same(a, b api.Record) bool {
	return a.Seq == b.Seq && a.Prev == b.Prev && a.Kind == b.Kind && a.Dev == b.Dev && slices.Equal(a.Wraps, b.Wraps) && a.Tag == b.Tag
}

func sameLog(a, b []api.Record) bool {
	return slices.EqualFunc(a, b, same)
}

// short is a text of what, with what is too long cut.
func short(what any) string {
	text := fmt.Sprintf("%q", fmt.Sprint(what))
	if len(text) > 500 {
		return text[:500] + ".."
	}
	return text
}

// bytesOf is the bytes that are written so, two digits each.
func bytesOf(t *testing.T, s string) string {
	t.Helper()
	b, err := hex.DecodeString(s)
	if err != nil {
		t.Fatal(err)
	}
	return string(b)
}

// lengths of keys: all up to more than two blocks, and long ones.
func lengths() []int {
	l := []int{200, 255, 256, 257, 1000, 65536}
	for n := range 140 {
		l = append(l, n)
	}
	return l
}

// good are records that may be, of all kinds of parts.
func good() []api.Record {
	boxes := func(n int) (l []api.Wrap) {
		for dev := range devs {
			l = append(l, api.Wrap{Dev: dev, Box: rising(byte(dev), n)})
		}
		return l
	}
	l := []api.Record{
		rec(1, "", add, 0, ""),
		rec(1, "", revoke, 0, ""),
		rec(1, "", add, 7, tag),
		rec(1, hash, add, 0, ""),
		rec(1, "", add, 0, "", wraps(0, "sealed")...),
		rec(2, hash, add, 3, tag, wraps(0, "b0", 3, "b3")...),
		rec(2, hash, revoke, 3, tag, wraps(0, "b0", 3, "b3")...),
		rec(2, hash, add, 3, tag, wraps(0, "", 7, "")...),
		rec(2, hash, add, 3, "", wraps(3, "b3")...),
		rec(2, hash, add, 3, strings.Repeat("\x00", tagSize)),
		rec(3, hash, add, 3, tag),
		rec(40, strings.Repeat("\xff", hashSize), revoke, 7, rising(240, tagSize), boxes(48)...),
		rec(41, hash, revoke, 1, tag, boxes(0)...),
		rec(256, strings.Repeat("\x00", hashSize), revoke, 1, tag, boxes(maxBox)...),
		rec(maxSeq, hash, revoke, 7, tag, boxes(maxBox)...),
	}
	return append(l, chainOf(secret, master, long(10))...)
}

// wrong are records that may not be, each in one way.
func wrong() []api.Record {
	l := []api.Record{{}, {Wraps: wraps(0, "x")}, {Tag: tag}}
	of := func(do func(r *api.Record)) {
		r := rec(2, hash, add, 3, tag, wraps(0, "b0", 3, "b3")...)
		do(&r)
		l = append(l, r)
	}
	for _, n := range []int{0, -1, -2, maxSeq + 1, 1<<32 + 2, math.MaxInt, math.MinInt} {
		of(func(r *api.Record) { r.Seq = n })
	}
	for _, n := range []int{0, 1, 16, 31, 33, 64} {
		of(func(r *api.Record) { r.Prev = rising(1, n) })
	}
	for _, n := range []int{1, 31, 33} {
		of(func(r *api.Record) { r.Seq, r.Prev = 1, rising(1, n) })
	}
	for _, n := range []int{0, -1, 3, 257, 1<<32 + 1, math.MaxInt, math.MinInt} {
		of(func(r *api.Record) { r.Kind = n })
	}
	for _, n := range []int{-1, devs, devs + 1, 256, 1<<32 + 3, math.MaxInt, math.MinInt} {
		of(func(r *api.Record) { r.Dev = n })
	}
	for _, n := range []int{1, 15, 17, 32} {
		of(func(r *api.Record) { r.Tag = rising(1, n) })
		of(func(r *api.Record) { r.Seq, r.Prev, r.Tag = 1, "", rising(1, n) })
	}
	for _, w := range [][]api.Wrap{
		wraps(0, "a", 0, "a"), wraps(3, "a", 3, "b"), wraps(3, "b3", 0, "b0"), wraps(0, "a", 7, "b", 3, "c"), wraps(-1, "x"), wraps(8, "x"), wraps(-1, "x", 0, "b"),
		wraps(0, "b", 8, "x"), wraps(math.MinInt, "x", 3, "b"), wraps(3, "b", math.MaxInt, "x"), wraps(0, rising(0, maxBox+1)), wraps(0, "a", 3, rising(0, maxBox+1)),
	} {
		of(func(r *api.Record) { r.Wraps = w })
	}
	return l
}

// 17.1: Tag, by bytes that another program worked out.
func TestTagKnown(t *testing.T) {
	r := rec(2, hash, add, 3, tag, wraps(0, "b0", 3, "b3")...)
	for _, c := range []struct{ key, want string }{
		{"", "67f7b158910dab2046308717eee70fb7"},
		{"key", "d264db6b0c8ab5ad513d192dd1e93957"},
		{rising(0, 64), "ccc1dac0a3459f384f86796c7d25f622"},
		{rising(0, 65), "d28c68dba8c4870f8593097464a0e0f6"},
	} {
		if got := wrap.Tag(c.key, r); got != bytesOf(t, c.want) {
			t.Errorf("17.1: Tag by a key of %d bytes is %x, not %s", len(c.key), got, c.want)
		}
	}
}

// 17.1: Tag is the first TagSize bytes of Mac of key over Put of the record
// without its Tag, for keys of every length, whatever Tag it has.
func TestTag(t *testing.T) {
	for i, r := range good() {
		for _, n := range lengths() {
			key := rising(byte(i), n)
			got, want := wrap.Tag(key, r), slowTag(key, r)
			if got != want || len(got) != tagSize {
				t.Errorf("17.1: Tag of record %d by a key of %d bytes is %x, not %x", i, n, got, want)
			}
		}
		want := wrap.Tag("some key", r)
		for _, own := range []string{"", tag, strings.Repeat("\x00", tagSize), rising(9, tagSize), want} {
			other := r
			other.Tag = own
			if got := wrap.Tag("some key", other); got != want {
				t.Errorf("17.1: with the Tag %q Tag of record %d is %x, not %x", own, i, got, want)
			}
		}
	}
}

// 17.1: of what may not be there is no Tag, by whatever key.
func TestTagNone(t *testing.T) {
	for i, r := range wrong() {
		for _, key := range []string{"", "k", rising(0, keySize), rising(0, 64), rising(0, 65)} {
			if got := wrap.Tag(key, r); got != "" || slowMay(r) {
				t.Errorf("17.1: Tag of what may not be, %d, is %x", i, got)
			}
		}
	}
}

// 17.1: another key, or another part, has another Tag.
func TestTagsApart(t *testing.T) {
	seen := map[string]string{}
	note := func(what, tag string) {
		if other, ok := seen[tag]; ok {
			t.Errorf("17.1: %s has the Tag of %s", what, other)
		}
		seen[tag] = what
	}
	r := rec(2, hash, add, 3, tag, wraps(0, "b0", 3, "b3")...)
	for n := range 130 {
		note(fmt.Sprint("a key of ", n), wrap.Tag(rising(1, n), r))
	}
	for i := range 32 {
		note(fmt.Sprint("a key turned at ", i), wrap.Tag(flipped(rising(1, 32), i, 128), r))
		other := r
		other.Prev = flipped(hash, i, 1)
		note(fmt.Sprint("a Prev turned at ", i), wrap.Tag("", other))
	}
	for i, do := range []func(r *api.Record){
		func(r *api.Record) { r.Seq = 3 }, func(r *api.Record) { r.Kind = revoke }, func(r *api.Record) { r.Dev = 2 },
		func(r *api.Record) { r.Wraps = nil }, func(r *api.Record) { r.Wraps = r.Wraps[:1] }, func(r *api.Record) { r.Wraps = r.Wraps[1:] },
		func(r *api.Record) { r.Wraps = wraps(0, "b0b", 3, "3") }, func(r *api.Record) { r.Wraps = wraps(0, "b0", 4, "b3") },
		func(r *api.Record) { r.Wraps = wraps(0, "b0", 3, "b2") }, func(r *api.Record) { r.Wraps = wraps(0, "b0", 3, "b3\x00") },
	} {
		other := r
		do(&other)
		note(fmt.Sprint("another part, ", i), wrap.Tag("", other))
	}
}

// made tells the test that Make tells just this.
func made(t *testing.T, what string, log []api.Record, kind, dev int, want api.Errno) {
	t.Helper()
	heldMake(t, what, secret, master, log, kind, dev)
	r, e := wrap.Make(secret, master, log, kind, dev)
	if e != want {
		t.Errorf("17.1: %s: Make of kind %d, device %d tells %d, not %d", what, kind, dev, e, want)
	}
	// R4: a list that is nothing, not one that has nothing.
	if e != api.OK && (r.Wraps != nil || !same(r, api.Record{})) {
		t.Errorf("R4: %s: beside %d Make tells %s", what, e, short(r))
	}
}

// heldMake tells the test whether Make tells what the slow way does; it tells the
// number.
func heldMake(t *testing.T, what, secret, master string, log []api.Record, kind, dev int) api.Errno {
	t.Helper()
	r, e := wrap.Make(secret, master, log, kind, dev)
	want, number := slowMake(secret, master, log, kind, dev)
	if e != number || !same(r, want) {
		t.Errorf("17.1: %s: Make of kind %d, device %d tells %s, %d, not %s, %d", what, kind, dev, short(r), e, short(want), number)
	}
	return e
}

// kinds are such as are none.
func kinds() []int {
	return []int{0, 3, -1, -2, 4, 256, 257, 258, 1<<32 + 1, 1<<32 + 2, math.MaxInt, math.MinInt, math.MinInt + 1}
}

// strangers are numbers of devices that there are not.
func strangers() []int {
	return []int{-1, devs, -2, devs + 1, -devs, 2 * devs, 256, 257, -256, 1 << 32, 1<<32 + 3, math.MaxInt, math.MinInt, math.MinInt + 3}
}

// chains are such as are as they should be, by names.
func chains() map[string][]api.Record {
	return map[string][]api.Record{
		"no records":       nil,
		"device 0":         chain(add, 0),
		"two":              chain(add, 0, add, 3),
		"three":            chain(add, 0, add, 3, add, 1),
		"one gone":         chain(add, 0, add, 3, add, 1, revoke, 3),
		"one gone, back":   chain(add, 0, add, 3, add, 1, revoke, 3, add, 3),
		"all but 0 gone":   chain(add, 0, add, 7, revoke, 7),
		"all":              chainOf(secret, master, long(devs)),
		"39":               chainOf(secret, master, long(maxLog-1)),
		"40":               chainOf(secret, master, long(maxLog)),
		"40 of two":        chainOf(secret, master, turns(maxLog, 5)),
		"of other keys":    chainOf("another", "master", deeds(add, 0, add, 3, add, 1)),
		"without any keys": {rec(1, "", add, 0, "")},
	}
}

// broken are logs that are no chains, by names.
func broken() map[string][]api.Record {
	log := chain(add, 0, add, 3, add, 1, revoke, 3)
	with := func(i int, do func(r *api.Record)) []api.Record {
		other := slices.Clone(log)
		do(&other[i])
		return other
	}
	return map[string][]api.Record{
		"without the first":    log[1:],
		"without the second":   slices.Delete(slices.Clone(log), 1, 2),
		"the last twice":       append(slices.Clone(log), log[3]),
		"two swapped":          {log[0], log[2], log[1], log[3]},
		"one that may not be":  with(2, func(r *api.Record) { r.Dev = devs }),
		"another tag":          with(1, func(r *api.Record) { r.Tag = tag }),
		"another box":          with(2, func(r *api.Record) { r.Wraps = wraps(0, "b0") }),
		"another Prev":         with(3, func(r *api.Record) { r.Prev = hash }),
		"another Seq":          with(3, func(r *api.Record) { r.Seq = 5 }),
		"one zero":             {{}},
		"many zeros":           make([]api.Record, 50),
		"added twice":          chain(add, 0, add, 3, add, 3),
		"revoked who is none":  chain(add, 0, revoke, 3),
		"0 revoked":            chain(add, 0, add, 3, revoke, 0),
		"first another":        chain(add, 3),
		"first revoked":        chain(revoke, 0),
		"41":                   chainOf(secret, master, turns(maxLog+1, 5)),
		"more than a chain":    chainOf(secret, master, turns(maxLog+5, 5)),
		"the first with Prev":  {rec(1, hash, add, 0, "")},
		"the second but first": {rec(2, hash, add, 0, "")},
	}
}

// 17.1: kinds that are none, and devices that there are not, of whatever log.
func TestMakeArgs(t *testing.T) {
	logs := chains()
	for name, log := range broken() {
		logs["broken: "+name] = log
	}
	for name, log := range logs {
		for _, kind := range kinds() {
			for _, dev := range []int{-1, 0, 1, 3, 4, devs - 1, devs} {
				made(t, name, log, kind, dev, api.ErrArg)
			}
		}
		for _, dev := range strangers() {
			made(t, name, log, add, dev, api.ErrArg)
			made(t, name, log, revoke, dev, api.ErrArg)
		}
	}
}

// 17.1: log does not Check, whatever the record would do.
func TestMakeBroken(t *testing.T) {
	for name, log := range broken() {
		if slowCheck(log) {
			t.Errorf("%s is a chain", name)
		}
		for dev := range devs {
			made(t, name, log, add, dev, api.ErrArg)
			made(t, name, log, revoke, dev, api.ErrArg)
		}
	}
}

// 17.1: the first record is RAdd of device 0, and no other; nobody is a member
// then, but ErrNone does not count.
func TestMakeFirst(t *testing.T) {
	for _, log := range [][]api.Record{nil, {}, chain(add, 0)[:0]} {
		for dev := range devs {
			want := api.ErrArg
			if dev == 0 {
				want = api.OK
			}
			made(t, "no records", log, add, dev, want)
			made(t, "no records", log, revoke, dev, api.ErrArg)
		}
	}
}

// 17.1: device 0 is never revoked, of whatever log: not of a full one either.
func TestMakeStay(t *testing.T) {
	for name, log := range chains() {
		made(t, name, log, revoke, 0, api.ErrArg)
	}
}

// 17.1: ErrHave, ErrNone and ErrFull, and which of them counts first.
func TestMakeRefused(t *testing.T) {
	for name, log := range chains() {
		if len(log) == 0 {
			continue
		}
		if !slowCheck(log) {
			t.Fatalf("%s is no chain", name)
		}
		for dev, is := range slowMembers(log) {
			come, leave := api.OK, api.ErrNone
			if is {
				come, leave = api.ErrHave, api.OK
			}
			if come == api.OK && len(log) == maxLog {
				come = api.ErrFull
			}
			if leave == api.OK && len(log) == maxLog {
				leave = api.ErrFull
			}
			if dev == 0 {
				leave = api.ErrArg
			}
			made(t, name, log, add, dev, come)
			made(t, name, log, revoke, dev, leave)
		}
	}
	full := chainOf(secret, master, turns(maxLog, 5))
	made(t, "full", full, add, 4, api.ErrFull)
	made(t, "full", full, revoke, 5, api.ErrFull)
	made(t, "full", full, add, 5, api.ErrHave)
	made(t, "full", full, add, 0, api.ErrHave)
	made(t, "full", full, revoke, 4, api.ErrNone)
	made(t, "full", full, revoke, 0, api.ErrArg)
	made(t, "full but one", full[:maxLog-1], add, 5, api.OK)
	made(t, "full but one", full[:maxLog-1], revoke, 5, api.ErrNone)
}

// known is a record that another program worked out.
type known struct {
	kind, dev  int
	prev, tag  string
	boxes      []string
	devs       []int
	key, after string
}

// TestMakeKnown: 17.1, by bytes that another program worked out.
func TestMakeKnown(t *testing.T) {
	for _, c := range []struct {
		secret, master string
		l              []known
	}{
		{"some secret", "some master", []known{
			{add, 0, "", "", []string{"565173ab79de8c06505dea665f0709ed675c0b75417e07e19a9d4353f1f281c8ba4fdc7dd082d93941cb3fbcf0f3d064"}, []int{0},
				"2a6eceed31e40c52030d4f7728cf3fb1058f88649642109afd8c15b44ed6dafc", "22d27b5dafdcdf9e7105636e998527b21503928da0db7c7722698967b5df1ff9"},
			{add, 3, "22d27b5dafdcdf9e7105636e998527b21503928da0db7c7722698967b5df1ff9", "68cee2565d07e1142e50329ea3d7654c", []string{
				"2841bec40eee20d433a2e169315ebb660418a0dd7cc42df5e66eab3b8be2ad25c0deace01d28f30aeccc8effa86d4862",
				"d1a59648ba997c23aa15b31918bd074adce9c80e7c2cd4845a4fea0d6c1fc3f16df5cb5823e6a82a060914cc5d6d649b"}, []int{0, 3},
				"67a933d36a42e55f500039f89ecfcf000dce148c3112469159d42332a5c504a2", "379bc156f6bccbd1e37f1ffa5236b9e0169d8085285d30c128a64b848a242f04"},
			{revoke, 3, "379bc156f6bccbd1e37f1ffa5236b9e0169d8085285d30c128a64b848a242f04", "65d1f9721e098f74ec1f857c9e903450", []string{
				"9b86f79e3c2f502b6369db4032412d2cff3b3e5aa4b6b495c587bde11fe0c0a3d5533dadd9a5c1b5aa9bdaf8eabc174b"}, []int{0},
				"145fca7c4a1b6c268e5569724bb8bb65cd0d598e38cdf77b7a6af2b1f28a46be", "cb4cfc6c03bd3103cf65e2e994cd3243d089b053273ee1a0a2a3485a08264c1e"},
		}},
		{"", rising(0, 100), []known{
			{add, 0, "", "", []string{"faae0a502c9f469fd0009ac9386a9790d72f78b896b73bd183c0638679c3537798e9afb1d1761d769d1a33a293db8ffe"}, []int{0},
				"fecb646f4865d9cf92713bc5e76eeffa3c2dd1e7d41437900ebb733171121478", "420387cb87accd3a0f6a03bc2078e5aa359aa55a20b63e9d503afd35995f35f1"},
			{add, 7, "420387cb87accd3a0f6a03bc2078e5aa359aa55a20b63e9d503afd35995f35f1", "4f096fd11870562118278dfdfe2554bc", []string{
				"3aba0ec4555a40f117575e4ede4a546557f0ecdde97e1ff3dabb6e557e1bccf35da8b5d41973cd643e05be8ca7988d86",
				"804814c34b304170204a92ded25969708dbec4ef37d02703fc70a0d6328273988df76d5e979a39214a752a2c4dac2f13"}, []int{0, 7},
				"1c1af4fb8de8b21e22277d5935b8b2db937287993ce25feab6b2aff1235a472d", "65eef1d7a94459a950f4a2806f556a4e43f5f83198efa3b0b55eb53f846e022b"},
		}},
	} {
		var log []api.Record
		for i, k := range c.l {
			want := rec(i+1, bytesOf(t, k.prev), k.kind, k.dev, bytesOf(t, k.tag))
			for j, dev := range k.devs {
				want.Wraps = append(want.Wraps, api.Wrap{Dev: dev, Box: bytesOf(t, k.boxes[j])})
			}
			got, e := wrap.Make(c.secret, c.master, log, k.kind, k.dev)
			if e != api.OK || !same(got, want) {
				t.Errorf("17.1: record %d is %s, %d, not %s", i, short(got), e, short(want))
			}
			if member.Hash(got) != bytesOf(t, k.after) {
				t.Errorf("17.1: record %d has the Hash %x", i, member.Hash(got))
			}
			for _, dev := range k.devs {
				if key, ok := wrap.Open(ownOf(c.master, dev), got, dev); !ok || key != bytesOf(t, k.key) {
					t.Errorf("17.2: record %d opens to %x for %d", i, key, dev)
				}
			}
			log = append(log, want)
		}
	}
}

// nextIsRight tells the test whether r is the next record of log, by what 17.1
// says of it, part by part.
func nextIsRight(t *testing.T, what string, log []api.Record, kind, dev int, r api.Record) {
	t.Helper()
	all := append(slices.Clone(log), r)
	if r.Seq != len(log)+1 || r.Kind != kind || r.Dev != dev {
		t.Errorf("17.1: %s: it is %s", what, short(r))
	}
	if len(log) == 0 && (r.Prev != "" || r.Tag != "") {
		t.Errorf("17.1: %s: the first has the Prev %q, the Tag %q", what, r.Prev, r.Tag)
	}
	if n := len(log); n > 0 && (r.Prev != slowHash(log[n-1]) || r.Tag != slowTag(epochKey(secret, n), r)) {
		t.Errorf("17.1: %s: it has the Prev %x, the Tag %x", what, r.Prev, r.Tag)
	}
	if !member.Check(all...) {
		t.Errorf("17.1: %s: log with it does not Check", what)
	}
	left := r.Wraps
	for one, is := range slowMembers(all) {
		if !is {
			continue
		}
		if len(left) == 0 || left[0].Dev != one {
			t.Errorf("17.1: %s: there is no wrap of %d in its place: %s", what, one, short(r.Wraps))
			return
		}
		if want := slowSeal(ownOf(master, one), r.Seq, slowHead(r), epochKey(secret, r.Seq)); left[0].Box != want {
			t.Errorf("17.1: %s: the box of %d is %x, not %x", what, one, left[0].Box, want)
		}
		left = left[1:]
	}
	if len(left) > 0 {
		t.Errorf("17.1: %s: there are wraps too many: %s", what, short(left))
	}
}

// 17.1: what Make tells is the next record, part by part, up to MaxLog.
func TestMakeRecord(t *testing.T) {
	for _, l := range [][]deed{
		deeds(add, 0, add, 3, add, 1, revoke, 3, add, 3, revoke, 1, revoke, 3),
		deeds(add, 0, add, 7, add, 6, add, 5, add, 4, add, 3, add, 2, add, 1, revoke, 4, revoke, 7),
		long(maxLog), turns(maxLog, 7), turns(maxLog, 1),
	} {
		var log []api.Record
		for i, d := range l {
			r, e := wrap.Make(secret, master, log, d.kind, d.dev)
			what := fmt.Sprintf("record %d of %d, %v", i, len(l), d)
			if e != api.OK {
				t.Fatalf("17.1: %s: %d", what, e)
			}
			nextIsRight(t, what, log, d.kind, d.dev, r)
			for _, w := range r.Wraps {
				if w.Dev == d.dev && d.kind == revoke {
					t.Errorf("17.1: %s: who goes has a wrap", what)
				}
			}
			if d.kind == add && !slices.ContainsFunc(r.Wraps, func(w api.Wrap) bool { return w.Dev == d.dev }) {
				t.Errorf("17.1: %s: who comes has no wrap", what)
			}
			log = append(log, r)
		}
		if len(l) == maxLog {
			for dev := range devs {
				for _, kind := range []int{add, revoke} {
					if r, e := wrap.Make(secret, master, log, kind, dev); e == api.OK || !same(r, api.Record{}) {
						t.Errorf("17.1: behind 40 records Make tells %s, %d", short(r), e)
					}
				}
			}
		}
	}
}

// 17.1: a log that Checks may have been made by other keys, or by none: the next
// record hangs on it all the same.
func TestMakeOtherLogs(t *testing.T) {
	bare := []api.Record{rec(1, "", add, 0, tag, wraps(5, "x")...)}
	bare = append(bare, rec(2, slowHash(bare[0]), add, 4, "", wraps(0, "", 7, rising(0, maxBox))...))
	for _, log := range [][]api.Record{bare, bare[:1], chainOf("another", "master", long(20))} {
		for dev := range devs {
			for _, kind := range []int{add, revoke} {
				if r, e := wrap.Make(secret, master, log, kind, dev); e == api.OK {
					nextIsRight(t, "another log", log, kind, dev, r)
				}
				heldMake(t, "another log", secret, master, log, kind, dev)
			}
		}
	}
}

// 17.1: secret and master of every length: each of them tells in the record.
func TestMakeKeys(t *testing.T) {
	log := chain(add, 0, add, 3)
	seen := map[string]bool{}
	for _, n := range lengths() {
		for _, c := range []struct{ secret, master string }{{rising(1, n), "m"}, {"s", rising(1, n)}} {
			if e := heldMake(t, fmt.Sprint("keys of ", n), c.secret, c.master, log, add, 1); e != api.OK {
				t.Errorf("17.1: by keys of %d bytes Make tells %d", n, e)
			}
			r, _ := wrap.Make(c.secret, c.master, log, add, 1)
			heldMake(t, fmt.Sprint("keys of ", n), c.secret, c.master, nil, add, 0)
			if box := r.Wraps[1].Box; seen[box] {
				t.Errorf("17.1: by keys of %d bytes a box came before", n)
			} else {
				seen[box] = true
			}
		}
	}
	one, _ := wrap.Make(secret, master, log, add, 1)
	other, _ := wrap.Make(secret, "another", log, add, 1)
	if one.Wraps[0].Box == other.Wraps[0].Box || one.Tag == other.Tag {
		t.Error("17.1: by another master the box is the same, or the tag over it")
	}
}

// 17.1: all deeds of few devices, one behind the other, as far as they go.
func TestMakeDeeds(t *testing.T) {
	level := [][]api.Record{nil}
	count := map[api.Errno]int{}
	for range 5 {
		var next [][]api.Record
		for _, log := range level {
			for _, dev := range []int{0, 1, 2, 7} {
				for _, kind := range []int{add, revoke} {
					r, e := wrap.Make(secret, master, log, kind, dev)
					want, number := slowMake(secret, master, log, kind, dev)
					if e != number || !same(r, want) {
						t.Fatalf("17.1: behind %s Make of kind %d, device %d tells %s, %d, not %d", short(log), kind, dev, short(r), e, number)
					}
					count[e]++
					if e == api.OK {
						next = append(next, append(slices.Clone(log), r))
					}
				}
			}
		}
		level = next
	}
	// One of one deed, then three of each: of the others any.
	if want := 1 + 3 + 9 + 27 + 81; count[api.OK] != want || count[api.ErrHave] == 0 || count[api.ErrNone] == 0 || count[api.ErrArg] == 0 {
		t.Errorf("17.1: so often each number was told: %v", count)
	}
}
