package member_test

import (
	"crypto/sha256"
	"encoding/binary"
	"encoding/hex"
	"fmt"
	"math"
	"math/rand"
	"slices"
	"strings"
	"testing"
	"unsafe"

	"deaddrop/api"
	"deaddrop/member"
	"deaddrop/sha"
	"deaddrop/wire"
)

const (
	devs     = 8
	maxLog   = 40
	maxSeq   = 1 << 20
	maxBox   = 200
	hashSize = 32
	tagSize  = 16

	add    = api.RAdd
	revoke = api.RRevoke

	hash = "0123456789abcdef0123456789ABCDEF"
	tag  = "tag of 16 bytes."
)

// wraps are Dev, Box; Dev, Box; and so on.
func wraps(l ...any) []api.Wrap {
	var out []api.Wrap
	for i := 0; i+1 < len(l); i += 2 {
		out = append(out, api.Wrap{Dev: l[i].(int), Box: l[i+1].(string)})
	}
	return out
}

// rec is a record.
func rec(seq int, prev string, kind, dev int, tag string, l ...api.Wrap) api.Record {
	return api.Record{Seq: seq, Prev: prev, Kind: kind, Dev: dev, Wraps: l, Tag: tag}
}

// everyone are wraps of all devices, each with a box of n bytes.
func everyone(n int) []api.Wrap {
	var l []api.Wrap
	for dev := range devs {
		l = append(l, api.Wrap{Dev: dev, Box: strings.Repeat(string(rune('a'+dev)), n)})
	}
	return l
}

// all256 is each byte once.
func all256() string {
	b := make([]byte, 256)
	for i := range b {
		b[i] = byte(i)
	}
	return string(b)
}

// putNum, putText and putHead write wires anew, by the library's numbers.
func putNum(b []byte, l ...int) []byte {
	for _, n := range l {
		b = binary.BigEndian.AppendUint64(append(b, 1), uint64(n))
	}
	return b
}

func putText(b []byte, s string) []byte {
	return append(binary.BigEndian.AppendUint32(append(b, 2), uint32(len(s))), s...)
}

func putHead(b []byte, n int) []byte {
	return binary.BigEndian.AppendUint32(append(b, 3), uint32(n))
}

// slowPut is the bytes that 15.1 names, whether r may be or not.
func slowPut(r api.Record) string {
	b := putNum(putHead(nil, 6), r.Seq)
	b = putNum(putText(b, r.Prev), r.Kind, r.Dev)
	b = putHead(b, len(r.Wraps))
	for _, w := range r.Wraps {
		b = putText(putNum(putHead(b, 2), w.Dev), w.Box)
	}
	return string(putText(b, r.Tag))
}

// slowHead is the bytes that 15.1 names, whether r may be or not.
func slowHead(r api.Record) string {
	return string(putText(putNum(putHead(nil, 4), r.Seq, r.Kind, r.Dev), r.Prev))
}

// slowSum is the sum of b by the library.
func slowSum(b string) string {
	sum := sha256.Sum256([]byte(b))
	return string(sum[:])
}

// slowMay tells whether r may be, as the words of 15.1 say it.
func slowMay(r api.Record) bool {
	if r.Seq < 1 || r.Seq > maxSeq || r.Kind < 1 || r.Kind > 2 || r.Dev < 0 || r.Dev > devs-1 {
		return false
	}
	last := -1
	for _, w := range r.Wraps {
		if w.Dev <= last || w.Dev > devs-1 || len(w.Box) > maxBox {
			return false
		}
		last = w.Dev
	}
	switch len(r.Prev) {
	case 0:
		if r.Seq != 1 {
			return false
		}
	case hashSize:
	default:
		return false
	}
	return len(r.Tag) == tagSize || r.Tag == ""
}

// slowSame tells whether a and b are alike in all.
func slowSame(a, b api.Record) bool {
	if len(a.Wraps) != len(b.Wraps) {
		return false
	}
	for i, w := range a.Wraps {
		if w != b.Wraps[i] {
			return false
		}
	}
	a.Wraps, b.Wraps = nil, nil
	return fmt.Sprintf("%#v", a) == fmt.Sprintf("%#v", b)
}

// taker takes bytes apart; bad: they were not as they are to be.
type taker struct {
	rest string
	bad  bool
}

// bytes takes n of them.
func (x *taker) bytes(n int) string {
	if x.bad || n > len(x.rest) {
		x.bad = true
		return strings.Repeat("\x00", min(n, 9))
	}
	part := x.rest[:n]
	x.rest = x.rest[n:]
	return part
}

// kind takes a byte, which is to be this.
func (x *taker) kind(want byte) {
	x.bad = x.bytes(1)[0] != want || x.bad
}

// count takes four bytes.
func (x *taker) count() int {
	return int(binary.BigEndian.Uint32([]byte(x.bytes(4))))
}

// head takes how a list begins, which is to have so many.
func (x *taker) head(from, to int) int {
	x.kind(3)
	n := x.count()
	x.bad = x.bad || n < from || n > to
	return n
}

func (x *taker) num() int {
	x.kind(1)
	return int(binary.BigEndian.Uint64([]byte(x.bytes(8))))
}

func (x *taker) text() string {
	x.kind(2)
	return x.bytes(x.count())
}

// slowGet is the record whose Put b is, as the words of 15.1 say it.
func slowGet(b string) (api.Record, bool) {
	x := taker{rest: b}
	x.head(6, 6)
	r := api.Record{Seq: x.num(), Prev: x.text(), Kind: x.num(), Dev: x.num()}
	for n := x.head(0, devs); n > 0 && !x.bad; n-- {
		x.head(2, 2)
		r.Wraps = append(r.Wraps, api.Wrap{Dev: x.num(), Box: x.text()})
	}
	r.Tag = x.text()
	if x.bad || x.rest != "" || !slowMay(r) {
		return api.Record{}, false
	}
	return r, true
}

// short is a text with what is too long in it cut.
func short(what any) string {
	text := fmt.Sprintf("%q", fmt.Sprint(what))
	if b, ok := what.(string); ok {
		text = hex.EncodeToString([]byte(b))
	}
	if len(text) > 600 {
		return text[:600] + ".."
	}
	return text
}

// none tells the test that b is no record's Put.
func none(t *testing.T, what, b string) {
	t.Helper()
	r, ok := member.Get(b)
	if ok {
		t.Errorf("15.1: Get of %s, %s, is %s", what, short(b), short(r))
	}
	// R4: a list that is nothing, not one that has nothing.
	if !ok && (r.Wraps != nil || !slowSame(r, api.Record{})) {
		t.Errorf("R4: Get of %s, %s, is false beside %s", what, short(b), short(r))
	}
}

// gets tells the test that b is the Put of r.
func gets(t *testing.T, what, b string, r api.Record) {
	t.Helper()
	if got, ok := member.Get(b); !ok || !slowSame(got, r) || !member.Same(got, r) {
		t.Errorf("15.1: Get of %s is %s, %v, not %s", what, short(got), ok, short(r))
	}
}

// heldAgainst tells the test whether Get of b is what the slow way tells; it
// tells whether that is a record.
func heldAgainst(t *testing.T, what, b string) bool {
	t.Helper()
	want, ok := slowGet(b)
	if !ok {
		none(t, what, b)
		return false
	}
	gets(t, what, b, want)
	if got := member.Put(want); got != b {
		t.Errorf("15.1: Put of what Get told of %s is %s, not %s", what, short(got), short(b))
	}
	return true
}

// held tells the test whether all of 15.1 holds of r, by the slow way.
func held(t *testing.T, what string, r api.Record) {
	t.Helper()
	may, put, head := slowMay(r), "", ""
	if may {
		put, head = slowPut(r), slowHead(r)
	}
	if got := member.May(r); got != may {
		t.Errorf("15.1: May of %s, %s, is %v", what, short(r), got)
	}
	if got := member.Put(r); got != put {
		t.Errorf("15.1: Put of %s is %s, not %s", what, short(got), short(put))
	}
	if got := member.Head(r); got != head {
		t.Errorf("15.1: Head of %s is %s, not %s", what, short(got), short(head))
	}
	if got := member.Hash(r); got != slowSum(put) {
		t.Errorf("15.1: Hash of %s is %s, not %s", what, short(got), short(slowSum(put)))
	}
	if heldAgainst(t, what, slowPut(r)) != may {
		t.Errorf("15.1: Get of what may be, %v, or not: %s", may, what)
	}
}

// named is a record with what it is.
type named struct {
	name string
	r    api.Record
}

// good are records that may be, each unlike all others.
func good() []named {
	bytes := all256()
	return []named{
		{"the least", rec(1, "", add, 0, "")},
		{"the least with another kind", rec(1, "", revoke, 0, "")},
		{"the first with a Prev", rec(1, hash, add, 0, "")},
		{"the first with a Prev of noughts", rec(1, strings.Repeat("\x00", hashSize), add, 0, "")},
		{"the first with a tag", rec(1, "", add, 0, tag)},
		{"the first with a tag of noughts", rec(1, "", add, 0, strings.Repeat("\x00", tagSize))},
		{"the first of another device", rec(1, "", add, 5, "")},
		{"the first with a wrap", rec(1, "", add, 0, "", wraps(0, "sealed")...)},
		{"the first with an empty box", rec(1, "", add, 0, "", wraps(0, "")...)},
		{"the second", rec(2, hash, add, 3, tag, wraps(0, "b0", 3, "b3")...)},
		{"the second, going", rec(2, hash, revoke, 3, tag, wraps(0, "b0", 3, "b3")...)},
		{"the second without a tag", rec(2, hash, add, 3, "", wraps(0, "b0", 3, "b3")...)},
		{"the second without wraps", rec(2, hash, add, 3, tag)},
		{"the second with the wraps of others", rec(2, hash, add, 3, tag, wraps(1, "b0", 4, "b3")...)},
		{"the second with bytes in another box", rec(2, hash, add, 3, tag, wraps(0, "b0b", 3, "3")...)},
		{"the second with wraps of both ends", rec(2, hash, add, 3, tag, wraps(0, "", 7, "")...)},
		{"the second with a wrap of the last", rec(2, hash, add, 3, tag, wraps(7, "x")...)},
		{"the third", rec(3, hash, add, 3, tag, wraps(0, "b0", 3, "b3")...)},
		{"the 256th", rec(256, hash, add, 6, tag, everyone(2)...)},
		{"the last but one", rec(maxSeq-1, hash, add, 7, tag)},
		{"the last", rec(maxSeq, hash, add, 7, tag)},
		{"all devices without bytes", rec(9, hash, revoke, 1, tag, everyone(0)...)},
		{"all devices", rec(9, hash, revoke, 1, tag, everyone(77)...)},
		{"the longest boxes", rec(9, hash, revoke, 1, tag, everyone(maxBox)...)},
		{"the longest", rec(maxSeq, strings.Repeat("\xff", hashSize), revoke, devs-1, strings.Repeat("\xff", tagSize), everyone(maxBox)...)},
		{"a box of noughts", rec(4, hash, add, 2, tag, wraps(2, strings.Repeat("\x00", maxBox))...)},
		{"each byte", rec(4, bytes[:32], add, 2, bytes[32:48], wraps(2, bytes[:128], 5, bytes[128:])...)},
		{"texts like wires", rec(4, string(putNum(putText(nil, ""), 1, 2))+"123456789", add, 2, string(putNum(putHead(nil, 0)))+"12345678901", wraps(1, string(putHead(nil, 2)), 2, slowPut(rec(1, "", add, 0, "")))...)},
		{"bytes that are no runes", rec(4, "\xc3\x28"+hash[2:], add, 2, tag, wraps(1, "\xff\xfe", 2, "\xc3\x28\x80")...)},
	}
}

// wrong are records that may not be, each in one way.
func wrong() []named {
	of := func(do func(r *api.Record)) api.Record {
		r := rec(2, hash, add, 3, tag, wraps(0, "b0", 3, "b3")...)
		do(&r)
		return r
	}
	with := func(l ...any) api.Record {
		return of(func(r *api.Record) { r.Wraps = wraps(l...) })
	}
	box := strings.Repeat("x", maxBox+1)
	l := []named{
		{"nothing", api.Record{}},
		{"the second without a Prev", of(func(r *api.Record) { r.Prev = "" })},
		{"wraps of one device twice", with(0, "b0", 0, "b0")},
		{"wraps of one device twice, with two boxes", with(3, "a", 3, "b")},
		{"the last wraps of one device", with(0, "b0", 3, "b3", 3, "b3")},
		{"wraps of one device, not side by side", with(0, "b0", 3, "b3", 0, "b0")},
		{"wraps the wrong way round", with(3, "b3", 0, "b0")},
		{"the last wraps the wrong way round", with(0, "b0", 7, "b7", 3, "b3")},
		{"the first wraps the wrong way round", with(1, "b1", 0, "b0", 3, "b3")},
		{"a wrap of device -1", with(-1, "x")},
		{"a wrap of device -1 ahead of others", with(-1, "x", 0, "x")},
		{"a wrap of device 8", with(8, "x")},
		{"a wrap of device 8 behind others", with(0, "b0", 7, "b7", 8, "b8")},
		{"a wrap of the least device", with(math.MinInt, "x", 3, "b3")},
		{"a wrap of the greatest device", with(0, "b0", math.MaxInt, "x")},
		{"a wrap of device 2^32", with(1<<32, "x")},
		{"a box too long", with(0, box)},
		{"the last box too long", with(0, "b0", 3, box)},
		{"the first box too long", with(0, box, 3, "b3")},
		{"a box far too long", with(0, strings.Repeat("x", 1<<16))},
		{"nine wraps", of(func(r *api.Record) { r.Wraps = append(everyone(1), api.Wrap{Dev: 7}) })},
		{"nine wraps of nine devices", of(func(r *api.Record) { r.Wraps = append(everyone(1), api.Wrap{Dev: 8}) })},
		{"wraps of all devices the wrong way round", of(func(r *api.Record) { r.Wraps = everyone(1); slices.Reverse(r.Wraps) })},
	}
	for _, n := range []int{0, -1, -2, maxSeq + 1, 2 * maxSeq, 1 << 32, 1<<32 + 2, math.MaxInt, math.MinInt} {
		l = append(l, named{fmt.Sprint("Seq ", n), of(func(r *api.Record) { r.Seq = n })})
		l = append(l, named{fmt.Sprint("Seq ", n, " without a Prev"), of(func(r *api.Record) { r.Seq, r.Prev = n, "" })})
	}
	for _, n := range []int{1, 16, 31, 33, 64, 1 << 16} {
		l = append(l, named{fmt.Sprint("a Prev of ", n), of(func(r *api.Record) { r.Prev = strings.Repeat("p", n) })})
		l = append(l, named{fmt.Sprint("the first with a Prev of ", n), of(func(r *api.Record) { r.Seq, r.Prev = 1, strings.Repeat("p", n) })})
	}
	for _, n := range []int{0, 3, 4, -1, -2, 256, 257, 258, 1<<32 + 1, 1<<32 + 2, math.MaxInt, math.MinInt, math.MinInt + 1} {
		l = append(l, named{fmt.Sprint("kind ", n), of(func(r *api.Record) { r.Kind = n })})
	}
	for _, n := range []int{-1, -8, 8, 9, 256, 1 << 32, 1<<32 + 3, math.MaxInt, math.MinInt} {
		l = append(l, named{fmt.Sprint("device ", n), of(func(r *api.Record) { r.Dev = n })})
	}
	for _, n := range []int{1, 15, 17, 32, 1 << 16} {
		l = append(l, named{fmt.Sprint("a tag of ", n), of(func(r *api.Record) { r.Tag = strings.Repeat("t", n) })})
		l = append(l, named{fmt.Sprint("the first with a tag of ", n), of(func(r *api.Record) { r.Seq, r.Prev, r.Tag = 1, "", strings.Repeat("t", n) })})
	}
	return l
}

// 15.1: May, and all that hangs on it, of records that may be and that may not.
func TestRecords(t *testing.T) {
	for _, c := range good() {
		if !member.May(c.r) {
			t.Errorf("15.1: %s may not be", c.name)
		}
		held(t, c.name, c.r)
	}
	for _, c := range wrong() {
		if member.May(c.r) {
			t.Errorf("15.1: %s may be", c.name)
		}
		held(t, c.name, c.r)
		if put, head, sum := member.Put(c.r), member.Head(c.r), member.Hash(c.r); put != "" || head != "" || sum != sha.Sum() {
			t.Errorf("15.1: of %s: Put %s, Head %s, Hash %x", c.name, short(put), short(head), sum)
		}
	}
}

// edge is a value of one part of a record: whether it is right there.
type edge struct {
	name string
	ok   bool
	set  func(r *api.Record)
}

// edges are values of each part of a record but Prev, up to its edge and beyond.
func edges() [][]edge {
	var l [5][]edge
	for n, ok := range map[int]bool{0: false, 1: true, 2: true, 1 << 20: true, 1<<20 + 1: false, -1: false} {
		l[0] = append(l[0], edge{fmt.Sprint("Seq ", n), ok, func(r *api.Record) { r.Seq = n }})
	}
	for n, ok := range map[int]bool{0: false, 1: true, 2: true, 3: false, -1: false} {
		l[1] = append(l[1], edge{fmt.Sprint("Kind ", n), ok, func(r *api.Record) { r.Kind = n }})
	}
	for n, ok := range map[int]bool{-1: false, 0: true, devs - 1: true, devs: false} {
		l[2] = append(l[2], edge{fmt.Sprint("Dev ", n), ok, func(r *api.Record) { r.Dev = n }})
	}
	for n, ok := range map[int]bool{0: true, 15: false, 16: true, 17: false} {
		l[3] = append(l[3], edge{fmt.Sprint("Tag of ", n), ok, func(r *api.Record) { r.Tag = strings.Repeat("t", n) }})
	}
	box := func(n int) string { return strings.Repeat("b", n) }
	for i, c := range []struct {
		l  []api.Wrap
		ok bool
	}{
		{nil, true}, {[]api.Wrap{}, true}, {everyone(0), true}, {everyone(maxBox), true}, {everyone(maxBox + 1), false},
		{wraps(2, "", 2, ""), false}, {wraps(2, "a", 1, "b"), false}, {wraps(-1, ""), false}, {wraps(0, ""), true}, {wraps(7, ""), true}, {wraps(8, ""), false},
		{wraps(3, box(0)), true}, {wraps(3, box(maxBox)), true}, {wraps(3, box(maxBox+1)), false}, {wraps(3, box(maxBox), 4, box(maxBox)), true}, {wraps(3, box(1), 4, box(maxBox+1)), false},
	} {
		l[4] = append(l[4], edge{fmt.Sprint("Wraps ", i), c.ok, func(r *api.Record) { r.Wraps = c.l }})
	}
	return l[:]
}

// 15.1: each part is right up to its edge and no further, alone, and with any of
// the other parts' values: of Prev it hangs on Seq what is right.
func TestEdges(t *testing.T) {
	l := edges()
	for _, seq := range l[0] {
		for n, ok := range map[int]bool{0: false, 31: false, 32: true, 33: false} {
			for _, kind := range l[1] {
				for _, dev := range l[2] {
					for _, tag := range l[3] {
						for _, wraps := range l[4] {
							r := api.Record{Prev: strings.Repeat("p", n)}
							for _, e := range []edge{seq, kind, dev, tag, wraps} {
								e.set(&r)
							}
							want := seq.ok && (ok || n == 0 && r.Seq == 1) && kind.ok && dev.ok && tag.ok && wraps.ok
							if member.May(r) != want || slowMay(r) != want {
								t.Fatalf("15.1: May of %s, Prev of %d, %s, %s, %s, %s: %v, %v", seq.name, n, kind.name, dev.name, tag.name, wraps.name, member.May(r), slowMay(r))
							}
							if got := member.Put(r) == slowPut(r) && member.Head(r) == slowHead(r); got != want {
								t.Fatalf("15.1: Put of %s, Head of it: %v", short(r), got)
							}
						}
					}
				}
			}
		}
	}
}

// 15.1: so are those of a record that may be otherwise: one part alone, and two
// at once.
func TestTwoEdges(t *testing.T) {
	l := edges()
	for _, base := range []api.Record{rec(1, "", add, 0, ""), rec(1, hash, revoke, 4, tag), rec(2, hash, add, 3, tag, wraps(0, "b0", 3, "b3")...)} {
		for i, one := range l {
			for _, a := range one {
				r := base
				a.set(&r)
				held(t, a.name, r)
				if want := a.ok && (r.Prev != "" || r.Seq == 1); member.May(r) != want {
					t.Errorf("15.1: May of %s is %v", short(r), !want)
				}
				for _, other := range l[:i] {
					for _, b := range other {
						both := r
						b.set(&both)
						held(t, a.name+", "+b.name, both)
						if !a.ok && member.May(both) {
							t.Errorf("15.1: May of %s is true", short(both))
						}
					}
				}
			}
		}
	}
}

// 15.1: bytes and sums that another program worked out.
func TestKnown(t *testing.T) {
	unhex := func(s string) string {
		b, err := hex.DecodeString(s)
		if err != nil {
			t.Fatal(err)
		}
		return string(b)
	}
	first, second, third := unhex("fdeb1831fd7dafad014557f53eeb00c5a3015a6eb43092c835ce1d821a292a29"), unhex("053c3003d4886fd218448df259253cc10ceac909a61a3288c22516632edd75fb"), unhex("885ea9e73b7fd008497afdac136c9dda6c72d86dfb331139fe2cbc9475f5b725")
	log := []api.Record{
		rec(1, "", add, 0, "", wraps(0, "sealed for 0")...),
		rec(2, first, add, 3, "0123456789abcdef", wraps(0, "", 3, "\x00\xff")...),
		rec(3, second, revoke, 3, "fedcba9876543210"),
	}
	for i, c := range []struct{ put, head, hash string }{
		{"0300000006010000000000000001020000000001000000000000000101000000000000000003000000010300000002010000000000000000020000000c7365616c656420666f7220300200000000", "03000000040100000000000000010100000000000000010100000000000000000200000000", first},
		{"03000000060100000000000000020200000020fdeb1831fd7dafad014557f53eeb00c5a3015a6eb43092c835ce1d821a292a290100000000000000010100000000000000030300000002030000000201000000000000000002000000000300000002010000000000000003020000000200ff020000001030313233343536373839616263646566", "03000000040100000000000000020100000000000000010100000000000000030200000020fdeb1831fd7dafad014557f53eeb00c5a3015a6eb43092c835ce1d821a292a29", second},
		{"03000000060100000000000000030200000020053c3003d4886fd218448df259253cc10ceac909a61a3288c22516632edd75fb0100000000000000020100000000000000030300000000020000001066656463626139383736353433323130", "03000000040100000000000000030100000000000000020100000000000000030200000020053c3003d4886fd218448df259253cc10ceac909a61a3288c22516632edd75fb", third},
	} {
		r := log[i]
		if put := member.Put(r); put != unhex(c.put) {
			t.Errorf("15.1: Put of %d is %x", i, put)
		}
		if head := member.Head(r); head != unhex(c.head) {
			t.Errorf("15.1: Head of %d is %x", i, head)
		}
		if sum := member.Hash(r); sum != c.hash {
			t.Errorf("15.1: Hash of %d is %x", i, sum)
		}
		gets(t, "known bytes", unhex(c.put), r)
	}
	if !member.Check(log...) {
		t.Error("15.2: Check of known records is false")
	}
	long := rec(maxSeq, strings.Repeat("\xff", 32), revoke, 7, strings.Repeat("\x00", 16))
	for dev := range devs {
		long.Wraps = append(long.Wraps, api.Wrap{Dev: dev, Box: strings.Repeat(string(rune(dev)), maxBox)})
	}
	if put, sum := member.Put(long), member.Hash(long); len(put) != 1847 || sum != unhex("2142360b83663b76835b90da025aab2f74798af38dff3522eaa9f76e9e6dd517") {
		t.Errorf("15.1: the longest has %d bytes, Hash %x", len(put), sum)
	}
}

// 15.1: Put and Head are Put (4) of just those lists, in that order; Hash is the
// Sum (2) of Put.
func TestLists(t *testing.T) {
	for _, c := range good() {
		var l []api.Wire
		for _, w := range c.r.Wraps {
			l = append(l, wire.List(wire.Num(w.Dev), wire.Text(w.Box)))
		}
		seq, prev, kind, dev := wire.Num(c.r.Seq), wire.Text(c.r.Prev), wire.Num(c.r.Kind), wire.Num(c.r.Dev)
		put, head := wire.Put(wire.List(seq, prev, kind, dev, wire.List(l...), wire.Text(c.r.Tag))), wire.Put(wire.List(seq, kind, dev, prev))
		if put == "" || head == "" || member.Put(c.r) != put || member.Head(c.r) != head {
			t.Errorf("15.1: %s: Put %s, Head %s", c.name, short(member.Put(c.r)), short(member.Head(c.r)))
		}
		if sum := member.Hash(c.r); sum != sha.Sum(put) || len(sum) != hashSize {
			t.Errorf("15.1: %s: Hash %x", c.name, sum)
		}
	}
}

// 15.1: no two of these have one Put, one Hash; a record without wraps and one
// with an empty list of them are one.
func TestOnePut(t *testing.T) {
	l := good()
	for i, a := range l {
		for j, b := range l {
			if (member.Put(a.r) == member.Put(b.r)) != (i == j) || (member.Hash(a.r) == member.Hash(b.r)) != (i == j) {
				t.Errorf("15.1: one Put, one Hash of %s and %s", a.name, b.name)
			}
		}
		if len(a.r.Wraps) > 0 {
			continue
		}
		r := a.r
		r.Wraps = []api.Wrap{}
		if !member.May(r) || member.Put(r) != member.Put(a.r) || member.Head(r) != member.Head(a.r) || member.Hash(r) != member.Hash(a.r) || !member.Same(r, a.r) || !member.Same(a.r, r) {
			t.Errorf("R3: %s with an empty list of wraps is another", a.name)
		}
		gets(t, "one with an empty list of wraps", member.Put(a.r), r)
		gets(t, "one without wraps", member.Put(r), a.r)
	}
}

// 15.1: Head hangs on Seq, Prev, Kind and Dev alone, and on each of them.
func TestHead(t *testing.T) {
	for _, c := range good() {
		head := member.Head(c.r)
		for i, do := range []func(r *api.Record){
			func(r *api.Record) { r.Wraps = nil }, func(r *api.Record) { r.Wraps = wraps(1, "other") }, func(r *api.Record) { r.Wraps = everyone(maxBox) },
			func(r *api.Record) { r.Tag = "" }, func(r *api.Record) { r.Tag = strings.Repeat("o", tagSize) }, func(r *api.Record) { r.Wraps, r.Tag = everyone(1), "0123456789abcdef" },
		} {
			r := c.r
			do(&r)
			if got := member.Head(r); got != head {
				t.Errorf("15.1: Head of %s hangs on Wraps or Tag: %d", c.name, i)
			}
		}
		for i, do := range []func(r *api.Record){
			func(r *api.Record) { r.Seq ^= 1 << 10 }, func(r *api.Record) { r.Prev = strings.Repeat("o", hashSize) }, func(r *api.Record) { r.Kind = 3 - r.Kind }, func(r *api.Record) { r.Dev ^= 1 }, func(r *api.Record) { r.Dev ^= 4 },
		} {
			r := c.r
			do(&r)
			if got := member.Head(r); got == head || got != "" != slowMay(r) {
				t.Errorf("15.1: Head of %s does not hang on part %d", c.name, i)
			}
		}
	}
}

// 15.1: of what is cut anywhere, longer, or nothing at all, Get tells none.
func TestCut(t *testing.T) {
	none(t, "no bytes", "")
	for _, c := range good() {
		b := member.Put(c.r)
		gets(t, c.name, b, c.r)
		for n := range len(b) {
			none(t, c.name+", cut", b[:n])
			none(t, c.name+", cut ahead", b[n+1:])
		}
		for _, x := range []string{"\x00", "\x01", "\x02", "\x03", "x", "\xff", b} {
			none(t, c.name+", longer", b+x)
			none(t, c.name+", longer ahead", x+b)
		}
	}
}

// 15.1: with any byte turned Get tells none, or a record that may be and is not
// the same.
func TestTurned(t *testing.T) {
	some := 0
	for _, c := range good() {
		put := member.Put(c.r)
		for at := range len(put) {
			if at > 200 && at < len(put)-100 {
				continue
			}
			for _, by := range []byte{1, 2, 3, 4, 6, 8, 16, 32, 64, 128, 255} {
				b := []byte(put)
				b[at] ^= by
				if heldAgainst(t, c.name+", turned", string(b)) {
					some++
				}
				if r, ok := member.Get(string(b)); ok && (member.Same(r, c.r) || !member.May(r) || member.Hash(r) == member.Hash(c.r)) {
					t.Errorf("15.1: %s with byte %d turned is %s", c.name, at, short(r))
				}
			}
		}
	}
	if some < 1000 {
		t.Errorf("only %d of those turned are records", some)
	}
}

// others are wires of three kinds, and of a list that has something.
func others() []api.Wire {
	return []api.Wire{wire.Num(0), wire.Num(1), wire.Text(""), wire.Text("1"), wire.List(), wire.List(wire.Num(1)), wire.List(wire.Text(hash))}
}

// recordParts are those of the wire of a record that may be, wrap those of its
// second wrap.
func recordParts() (l, wrap []api.Wire) {
	wrap = []api.Wire{wire.Num(3), wire.Text("b3")}
	first := wire.List(wire.Num(0), wire.Text(""))
	return []api.Wire{wire.Num(2), wire.Text(hash), wire.Num(1), wire.Num(3), wire.List(first, wire.List(wrap...)), wire.Text(tag)}, wrap
}

// 15.1: Get tells none of another wire: one with a part more or fewer, or of
// another kind.
func TestOtherWires(t *testing.T) {
	l, wrap := recordParts()
	of := func(l ...api.Wire) string { return wire.Put(wire.List(l...)) }
	with := func(second ...api.Wire) string {
		parts := slices.Clone(l)
		parts[4] = wire.List(slices.Concat([]api.Wire{l[4].L[0]}, second)...)
		return of(parts...)
	}
	gets(t, "the wire", of(l...), rec(2, hash, add, 3, tag, wraps(0, "", 3, "b3")...))
	gets(t, "the wire", with(wire.List(wrap...)), rec(2, hash, add, 3, tag, wraps(0, "", 3, "b3")...))
	for at := range l {
		none(t, "a part fewer", of(slices.Delete(slices.Clone(l), at, at+1)...))
		none(t, "a part twice", of(slices.Insert(slices.Clone(l), at, l[at])...))
		none(t, "the first parts alone", of(l[:at]...))
		for _, w := range others() {
			none(t, "a part more", of(slices.Insert(slices.Clone(l), at, w)...))
			parts := slices.Clone(l)
			parts[at] = w
			heldAgainst(t, "another part", of(parts...))
			if w.Kind != l[at].Kind {
				none(t, "a part of another kind", of(parts...))
			}
		}
		for other := range at {
			parts := slices.Clone(l)
			parts[at], parts[other] = parts[other], parts[at]
			heldAgainst(t, "two parts swapped", of(parts...))
		}
	}
	for at := range wrap {
		none(t, "a wrap's part fewer", with(wire.List(slices.Delete(slices.Clone(wrap), at, at+1)...)))
		none(t, "a wrap's part twice", with(wire.List(slices.Insert(slices.Clone(wrap), at, wrap[at])...)))
		for _, w := range others() {
			none(t, "a wrap's part more", with(wire.List(slices.Insert(slices.Clone(wrap), at, w)...)))
			parts := slices.Clone(wrap)
			parts[at] = w
			if w.Kind != wrap[at].Kind {
				none(t, "a wrap's part of another kind", with(wire.List(parts...)))
			}
		}
	}
	none(t, "a wrap's parts swapped", with(wire.List(wrap[1], wrap[0])))
	for _, w := range others() {
		none(t, "a part more", of(append(slices.Clone(l), w)...))
		none(t, "a wrap's part more", with(wire.List(append(slices.Clone(wrap), w)...)))
		none(t, "something for a wrap", with(w))
		none(t, "something behind the wraps", with(wire.List(wrap...), w))
		none(t, "something else", wire.Put(w))
	}
	none(t, "a list of the record", of(wire.List(l...)))
	none(t, "a wrap in a list", with(wire.List(wire.List(wrap...))))
	none(t, "wraps in a list", of(l[0], l[1], l[2], l[3], wire.List(l[4]), l[5]))
	none(t, "wraps without lists", of(l[0], l[1], l[2], l[3], wire.List(wrap...), l[5]))
	none(t, "wraps among the parts", of(slices.Concat(l[:4], l[4].L, l[5:])...))
	none(t, "the Head", member.Head(rec(2, hash, add, 3, tag)))
}

// 15.1: nor of a record that may not be, written out as a wire.
func TestWrongWires(t *testing.T) {
	for _, c := range wrong() {
		b := slowPut(c.r)
		if _, ok := wire.Get(b); !ok {
			t.Errorf("4.1: %s is no wire", c.name)
		}
		none(t, c.name, b)
	}
}

// apart are records each of which differs in one part from the first.
func apart(base api.Record) []api.Record {
	l := []api.Record{base}
	for _, do := range []func(r *api.Record){
		func(r *api.Record) { r.Seq++ }, func(r *api.Record) { r.Seq = -r.Seq }, func(r *api.Record) { r.Seq += 1 << 32 },
		func(r *api.Record) { r.Prev = "" }, func(r *api.Record) { r.Prev = r.Prev[1:] }, func(r *api.Record) { r.Prev += "\x00" },
		func(r *api.Record) { r.Prev = "x" + r.Prev[1:] }, func(r *api.Record) { r.Prev = r.Prev[:len(r.Prev)-1] + "x" }, func(r *api.Record) { r.Prev = strings.ToUpper(r.Prev) },
		func(r *api.Record) { r.Kind = 3 - r.Kind }, func(r *api.Record) { r.Kind = 0 }, func(r *api.Record) { r.Kind += 1 << 32 },
		func(r *api.Record) { r.Dev++ }, func(r *api.Record) { r.Dev = -1 }, func(r *api.Record) { r.Dev += 256 },
		func(r *api.Record) { r.Tag = "" }, func(r *api.Record) { r.Tag += "x" }, func(r *api.Record) { r.Tag = r.Tag[1:] }, func(r *api.Record) { r.Tag = "x" + r.Tag[1:] },
		func(r *api.Record) { r.Wraps = nil }, func(r *api.Record) { r.Wraps = r.Wraps[:1] }, func(r *api.Record) { r.Wraps = r.Wraps[1:] },
		func(r *api.Record) { r.Wraps = append(slices.Clone(r.Wraps), api.Wrap{}) }, func(r *api.Record) { r.Wraps = append(slices.Clone(r.Wraps), r.Wraps[1]) },
		func(r *api.Record) { r.Wraps = wraps(r.Wraps[1].Dev, r.Wraps[1].Box, r.Wraps[0].Dev, r.Wraps[0].Box) },
		func(r *api.Record) { r.Wraps = slices.Clone(r.Wraps); r.Wraps[0].Dev++ }, func(r *api.Record) { r.Wraps = slices.Clone(r.Wraps); r.Wraps[1].Dev-- },
		func(r *api.Record) { r.Wraps = slices.Clone(r.Wraps); r.Wraps[0].Box = "" }, func(r *api.Record) { r.Wraps = slices.Clone(r.Wraps); r.Wraps[0].Box += "\x00" },
		func(r *api.Record) { r.Wraps = slices.Clone(r.Wraps); r.Wraps[1].Box = "x" + r.Wraps[1].Box[1:] }, func(r *api.Record) { r.Wraps = slices.Clone(r.Wraps); r.Wraps[1].Box += "more" },
		func(r *api.Record) { r.Prev, r.Tag = r.Tag, r.Prev }, func(r *api.Record) { r.Seq, r.Dev = r.Dev, r.Seq },
	} {
		r := base
		do(&r)
		l = append(l, r)
	}
	return l
}

// copied is r in memory of its own.
func copied(r api.Record) api.Record {
	r.Prev, r.Tag, r.Wraps = strings.Clone(r.Prev), strings.Clone(r.Tag), slices.Clone(r.Wraps)
	for i, w := range r.Wraps {
		r.Wraps[i].Box = strings.Clone(w.Box)
	}
	return r
}

// 15.2: Same is true of what is alike in all, and false where any one part
// differs, whether it may be or not.
func TestSame(t *testing.T) {
	l := apart(rec(2, hash, add, 4, tag, wraps(0, "b0", 3, "b3")...))
	l = append(l, apart(rec(2222222, "some prev", 7, 44, "some tag", wraps(9, "b9", 5, "b5")...))...)
	for _, c := range append(good(), wrong()...) {
		if !slices.ContainsFunc(l, func(r api.Record) bool { return slowSame(r, c.r) }) {
			l = append(l, c.r)
		}
	}
	for i, a := range l {
		for j, b := range l {
			if got := member.Same(a, copied(b)); got != (i == j) || got != slowSame(a, b) {
				t.Errorf("15.2: Same(%s, %s) is %v", short(a), short(b), got)
			}
		}
	}
	empty := api.Record{Wraps: []api.Wrap{}}
	if !member.Same(api.Record{}, empty) || !member.Same(empty, api.Record{}) || !member.Same(api.Record{}, api.Record{}) {
		t.Error("R3: no wraps and an empty list of them are not the same")
	}
}

// room is how much is behind the end of what guarded tells.
const room = 3

// guarded is a copy of l with room behind its end, which is filled.
func guarded[T any](l []T, fill T) []T {
	return append(slices.Clone(l), slices.Repeat([]T{fill}, room)...)[:len(l)]
}

// guard is r in other memory, its list guarded.
func guard(r api.Record) api.Record {
	r.Wraps = guarded(r.Wraps, api.Wrap{Dev: 4, Box: "behind"})
	return r
}

// shown tells all of r, which is guarded, with the room behind its list.
func shown(r api.Record) string {
	n := len(r.Wraps)
	r.Wraps = r.Wraps[:n+room]
	return fmt.Sprintf("%d: %#v", n, r)
}

// spoil writes into all of r's list, into its spare room too, and behind it.
func spoil(r api.Record) {
	_ = append(r.Wraps, api.Wrap{Dev: -9, Box: "appended"})
	for i := range r.Wraps[:cap(r.Wraps)] {
		r.Wraps[:cap(r.Wraps)][i] = api.Wrap{Dev: -9, Box: "spoilt"}
	}
}

// R3: what the calls are handed stays as it was, behind its end too, also what
// may not be; what they told stays as it was whoever writes into that.
func TestRecordMemory(t *testing.T) {
	for _, c := range append(good(), wrong()...) {
		want := []string{strings.Clone(member.Put(c.r)), strings.Clone(member.Head(c.r)), strings.Clone(member.Hash(c.r))}
		r, other := guard(c.r), guard(c.r)
		was := shown(r)
		got := []string{member.Put(r), member.Head(r), member.Hash(r)}
		if member.May(r) != (want[0] != "") || !member.Same(r, other) || !member.Same(other, r) || shown(r) != was || shown(other) != was {
			t.Errorf("R3: %s, as it was and is: %s, %s", c.name, was, shown(r))
		}
		spoil(r)
		if !slices.Equal(got, want) {
			t.Errorf("R3: an answer of %s keeps what was handed in", c.name)
		}
	}
}

// R3: what Get tells shares no memory with what it told before, nor with its
// spare room; and once more it tells the same.
func TestGetMemory(t *testing.T) {
	for _, c := range good() {
		b := member.Put(c.r)
		was := strings.Clone(b)
		first, _ := member.Get(b)
		second, _ := member.Get(b)
		spoil(first)
		if !slowSame(second, c.r) {
			t.Errorf("R3: two answers of Get of %s share memory", c.name)
		}
		gets(t, c.name+" once more", b, c.r)
		spoil(second)
		gets(t, c.name+" in other memory", was, c.r)
		if b != was {
			t.Errorf("R3: Get of %s turned what it was handed", c.name)
		}
	}
}

// overlap tells whether a and b share memory.
func overlap(a, b string) bool {
	if a == "" || b == "" {
		return false
	}
	x, y := uintptr(unsafe.Pointer(unsafe.StringData(a))), uintptr(unsafe.Pointer(unsafe.StringData(b)))
	return x < y+uintptr(len(b)) && y < x+uintptr(len(a))
}

// texts are all those of r.
func texts(r api.Record) []string {
	l := []string{r.Prev, r.Tag}
	for _, w := range r.Wraps {
		l = append(l, w.Box)
	}
	return l
}

// R3: the texts that Get tells are new memory, too: who keeps one of them does
// not keep all of the bytes. So is what Put, Head and Hash tell.
func TestTextMemory(t *testing.T) {
	for _, c := range good() {
		b := member.Put(c.r)
		for _, text := range texts(c.r) {
			for _, told := range []string{b, member.Head(c.r), member.Hash(c.r)} {
				if overlap(told, text) {
					t.Errorf("R3: of %s %x shares memory with %q", c.name, told, text)
				}
			}
		}
		if overlap(b, member.Put(c.r)) || overlap(b, member.Hash(c.r)) || overlap(member.Head(c.r), member.Head(c.r)) || overlap(member.Hash(c.r), member.Hash(c.r)) {
			t.Errorf("R3: two answers of %s share memory", c.name)
		}
		first, _ := member.Get(b)
		second, _ := member.Get(b)
		for i, text := range texts(first) {
			if overlap(b, text) {
				t.Errorf("R3: Get of %s shares memory with %q", c.name, text)
			}
			for j, other := range append(texts(second), texts(first)[:i]...) {
				// A text of one byte has no memory of its own.
				if len(text) > 1 && overlap(text, other) {
					t.Errorf("R3: Get of %s: %q shares memory with the %d-th, %q", c.name, text, j, other)
				}
			}
		}
	}
}

// scattered is a record by bytes, which need not be as it is to be.
func scattered(x []byte) api.Record {
	next := func() int {
		if len(x) == 0 {
			return 0
		}
		n := int(x[0])
		x = x[1:]
		return n
	}
	seqs := []int{1, 1, 1, 2, 2, 3, 40, 41, maxSeq, 0, -1, maxSeq + 1, math.MaxInt, math.MinInt}
	sizes := []int{0, 0, 32, 32, 32, 32, 32, 32, 32, 31, 33, 16}
	tags := []int{0, 16, 16, 16, 16, 16, 0, 15, 17, 1}
	boxes := []int{0, 1, 2, 16, 40, 100, 199, 200, 201, 202}
	r := api.Record{Seq: seqs[next()%len(seqs)]}
	r.Prev = strings.Repeat(string([]byte{byte(next())}), sizes[next()%len(sizes)])
	r.Kind, r.Dev = next()%40%3, next()%41%9
	r.Tag = strings.Repeat(string([]byte{byte(next())}), tags[next()%len(tags)])
	for len(x) > 1 {
		r.Wraps = append(r.Wraps, api.Wrap{Dev: next()%41%9 - next()%31%2, Box: strings.Repeat("b", boxes[next()%len(boxes)])})
	}
	return r
}

// sorted is r with its wraps by rising devices, none of them twice.
func sorted(r api.Record) api.Record {
	slices.SortFunc(r.Wraps, func(a, b api.Wrap) int { return a.Dev - b.Dev })
	r.Wraps = slices.CompactFunc(r.Wraps, func(a, b api.Wrap) bool { return a.Dev == b.Dev })
	return r
}

// some are at most n bytes of a source that always begins alike.
func some(r *rand.Rand, n int) []byte {
	b := make([]byte, r.Intn(n+1))
	r.Read(b)
	return b
}

// R1: every call ends, and none panics, whatever it is given: records at random,
// and bytes at random, and such as come of a record's by a few changes.
func TestAnything(t *testing.T) {
	r := rand.New(rand.NewSource(15))
	var puts []string
	for _, c := range good() {
		puts = append(puts, member.Put(c.r))
	}
	may := 0
	for i := range 60000 {
		one := scattered(some(r, 19))
		if i%2 == 0 {
			one = sorted(one)
		}
		if member.May(one) {
			may++
		}
		held(t, "random", one)
		heldAgainst(t, "random bytes", string(some(r, 40)))
		b := []byte(puts[r.Intn(len(puts))])
		for range r.Intn(4) + 1 {
			at := r.Intn(len(b))
			switch r.Intn(4) {
			case 0:
				b = slices.Delete(b, at, min(len(b), at+r.Intn(10)))
			case 1:
				b = slices.Insert(b, at, some(r, 12)...)
			default:
				b[at] = byte(r.Intn(4))
			}
			if len(b) == 0 {
				b = []byte{3}
			}
		}
		heldAgainst(t, "changed bytes", string(b))
		if t.Failed() {
			return
		}
	}
	if may < 1000 {
		t.Errorf("only %d of the records may be", may)
	}
}

// R1: what is far too long comes to an end soon.
func TestLong(t *testing.T) {
	long := strings.Repeat("x", 1<<26)
	many := make([]api.Wrap, 1<<20)
	for i := range many {
		many[i] = api.Wrap{Dev: i}
	}
	for i, r := range []api.Record{
		rec(1, long, add, 0, ""), rec(1, "", add, 0, long), rec(1, "", add, 0, "", wraps(0, long)...), rec(1, "", add, 0, "", wraps(0, "", 1, long)...),
		rec(1, "", add, 0, "", many...), rec(1, "", add, 0, "", slices.Repeat(everyone(1), 1<<17)...), rec(math.MaxInt, long, math.MinInt, math.MinInt, long, many...),
	} {
		if member.May(r) || member.Put(r) != "" || member.Head(r) != "" || member.Hash(r) != slowSum("") || member.Check(r) || !member.Same(r, r) {
			t.Errorf("15.1: of what is too long, %d", i)
		}
	}
	none(t, "noughts", strings.Repeat("\x00", 1<<26))
	none(t, "threes", strings.Repeat("\x03", 1<<26))
	none(t, "a text", wire.Put(wire.Text(long[:1<<20])))
	none(t, "too many wraps", slowPut(rec(2, hash, add, 0, "", many[:1<<16]...)))
	none(t, "far too many wraps", slowPut(rec(2, hash, add, 0, "", many...)))
	none(t, "a long Prev", slowPut(rec(2, long[:1<<20], add, 0, "")))
	none(t, "a long box", slowPut(rec(2, hash, add, 0, "", wraps(0, long[:1<<20])...)))
	none(t, "a long tag", slowPut(rec(2, hash, add, 0, long[:1<<20])))
	parts := make([]api.Wire, 1<<16)
	for i := range parts {
		parts[i] = wire.Num(1)
	}
	none(t, "a list of numbers", wire.Put(wire.List(parts...)))
	none(t, "numbers for wraps", wire.Put(wire.List(wire.Num(2), wire.Text(hash), wire.Num(1), wire.Num(0), wire.List(parts...), wire.Text(""))))
	none(t, "a wrap of numbers", wire.Put(wire.List(wire.Num(2), wire.Text(hash), wire.Num(1), wire.Num(0), wire.List(wire.List(parts...)), wire.Text(""))))
}
