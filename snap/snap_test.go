package snap_test

import (
	"encoding/binary"
	"encoding/hex"
	"fmt"
	"math"
	"math/rand"
	"slices"
	"strconv"
	"strings"
	"testing"
	"unsafe"

	"deaddrop/api"
	"deaddrop/facts"
	"deaddrop/join"
	"deaddrop/mutate"
	"deaddrop/snap"
	"deaddrop/wire"
)

const (
	devs     = 8
	maxKey   = 40
	maxItem  = 200
	maxUnit  = 1 << 40
	maxDot   = 1 << 52
	maxFacts = 400
	// So many runs a list of a wire may have.
	maxRuns = 1 << 16
)

// runs are Dev, From, To; Dev, From, To; and so on.
func runs(n ...int) []api.Run {
	var l []api.Run
	for i := 0; i+2 < len(n); i += 3 {
		l = append(l, api.Run{Dev: n[i], From: n[i+1], To: n[i+2]})
	}
	return l
}

func dot(dev, n int) api.Dot {
	return api.Dot{Dev: dev, N: n}
}

func reg(dev, n int, key, text string) api.Fact {
	return api.Fact{Dot: dot(dev, n), Key: key, Kind: api.FReg, Item: text}
}

func set(dev, n int, key, member string) api.Fact {
	return api.Fact{Dot: dot(dev, n), Key: key, Kind: api.FSet, Item: member}
}

func count(dev, n int, key string, counted int) api.Fact {
	return api.Fact{Dot: dot(dev, n), Key: key, Kind: api.FCnt, N: counted}
}

func state(seen []api.Run, l ...api.Fact) api.State {
	return api.State{Seen: seen, Facts: l}
}

// row are n facts of dev, by dots side by side.
func row(dev, from, n int) []api.Fact {
	l := make([]api.Fact, n)
	for i := range l {
		l[i] = reg(dev, from+i, "k", strconv.Itoa(i))
	}
	return l
}

// gaps are n runs of one dot each, dealt out to all devices.
func gaps(n int) []api.Run {
	l := make([]api.Run, n)
	each := (n + devs - 1) / devs
	for i := range l {
		at := 2*(i%each) + 1
		l[i] = api.Run{Dev: i / each, From: at, To: at}
	}
	return l
}

// all256 is each byte once, in two texts that may be items.
func all256() (string, string) {
	b := make([]byte, 256)
	for i := range b {
		b[i] = byte(i)
	}
	return string(b[:128]), string(b[128:])
}

// putNum, putText and putHead write wires anew, by the library's numbers.
func putNum(b []byte, l ...int) []byte {
	for _, n := range l {
		b = binary.BigEndian.AppendUint64(append(b, 1), uint64(n))
	}
	return b
}

func putText(b []byte, s string) []byte {
	return append(binary.BigEndian.AppendUint32(append(b, 2), uint32(len(s))), s...)
}

func putHead(b []byte, n int) []byte {
	return binary.BigEndian.AppendUint32(append(b, 3), uint32(n))
}

// slowPut is the bytes that 13.1 names, whether s may be or not.
func slowPut(s api.State) string {
	b := putHead(nil, 2)
	b = putHead(b, len(s.Seen))
	for _, r := range s.Seen {
		b = putNum(putHead(b, 3), r.Dev, r.From, r.To)
	}
	b = putHead(b, len(s.Facts))
	for _, f := range s.Facts {
		b = putNum(putHead(b, 6), f.Dot.Dev, f.Dot.N)
		b = putNum(putText(b, f.Key), f.Kind)
		b = putNum(putText(b, f.Item), f.N)
	}
	return string(b)
}

// taker takes bytes apart; bad: they were not as they are to be.
type taker struct {
	rest string
	bad  bool
}

// bytes takes n of them.
func (x *taker) bytes(n int) string {
	if x.bad || n > len(x.rest) {
		x.bad = true
		return strings.Repeat("\x00", min(n, 9))
	}
	part := x.rest[:n]
	x.rest = x.rest[n:]
	return part
}

// kind takes a byte, which is to be this.
func (x *taker) kind(want byte) {
	x.bad = x.bytes(1)[0] != want || x.bad
}

// count takes four bytes.
func (x *taker) count() int {
	return int(binary.BigEndian.Uint32([]byte(x.bytes(4))))
}

// head takes how a list begins, which is to have so many.
func (x *taker) head(from, to int) int {
	x.kind(3)
	n := x.count()
	x.bad = x.bad || n < from || n > to
	return n
}

func (x *taker) num() int {
	x.kind(1)
	return int(binary.BigEndian.Uint64([]byte(x.bytes(8))))
}

func (x *taker) text() string {
	x.kind(2)
	return x.bytes(x.count())
}

// slowGet is the state whose Put b is, as the words of 13.1 say it.
func slowGet(b string) (api.State, bool) {
	x := taker{rest: b}
	var s api.State
	x.head(2, 2)
	for n := x.head(0, maxRuns); n > 0 && !x.bad; n-- {
		x.head(3, 3)
		s.Seen = append(s.Seen, api.Run{Dev: x.num(), From: x.num(), To: x.num()})
	}
	for n := x.head(0, maxRuns); n > 0 && !x.bad; n-- {
		x.head(6, 6)
		s.Facts = append(s.Facts, api.Fact{Dot: dot(x.num(), x.num()), Key: x.text(), Kind: x.num(), Item: x.text(), N: x.num()})
	}
	if x.bad || x.rest != "" || !slowMay(s) {
		return api.State{}, false
	}
	return s, true
}

// slowMay tells whether s may be, as the words of 7.1 and 8.1 say it.
func slowMay(s api.State) bool {
	for i, r := range s.Seen {
		if r.Dev < 0 || r.Dev >= devs || r.From < 1 || r.To < r.From || r.To > maxDot {
			return false
		}
		if i > 0 && (r.Dev < s.Seen[i-1].Dev || r.Dev == s.Seen[i-1].Dev && r.From <= s.Seen[i-1].To+1) {
			return false
		}
	}
	for i, f := range s.Facts {
		texts := (f.Kind == 1 || f.Kind == 2) && len(f.Item) <= maxItem && f.N == 0
		counts := f.Kind == 3 && f.Item == "" && f.N >= -maxUnit && f.N <= maxUnit
		seen := slices.ContainsFunc(s.Seen, func(r api.Run) bool {
			return r.Dev == f.Dot.Dev && r.From <= f.Dot.N && f.Dot.N <= r.To
		})
		if len(f.Key) > maxKey || !texts && !counts || !seen {
			return false
		}
		if i > 0 && (f.Dot.Dev < s.Facts[i-1].Dot.Dev || f.Dot.Dev == s.Facts[i-1].Dot.Dev && f.Dot.N <= s.Facts[i-1].Dot.N) {
			return false
		}
	}
	return len(s.Facts) <= maxFacts
}

// short is a text with what is too long in it cut.
func short(what any) string {
	text := fmt.Sprintf("%v", what)
	if b, ok := what.(string); ok {
		text = hex.EncodeToString([]byte(b))
	}
	if len(text) > 600 {
		return text[:600] + ".."
	}
	return text
}

// none tells the test that b is no state's Put.
func none(t *testing.T, what, b string) {
	t.Helper()
	s, ok := snap.Get(b)
	if ok {
		t.Errorf("13.1: Get of %s, %s, is %s", what, short(b), short(s))
	}
	// R4: a list that is nothing, not one that has nothing.
	if !ok && (s.Seen != nil || s.Facts != nil) {
		t.Errorf("R4: Get of %s, %s, is false beside %s", what, short(b), short(s))
	}
}

// gets tells the test that b is the Put of s.
func gets(t *testing.T, what, b string, s api.State) {
	t.Helper()
	if got, ok := snap.Get(b); !ok || !facts.Same(got, s) {
		t.Errorf("13.1: Get of %s is %s, %v, not %s", what, short(got), ok, short(s))
	}
}

// heldAgainst tells the test whether Get of b is what the slow way tells; it
// tells whether that is a state.
func heldAgainst(t *testing.T, what, b string) bool {
	t.Helper()
	want, ok := slowGet(b)
	if !ok {
		none(t, what, b)
		return false
	}
	gets(t, what, b, want)
	if got := snap.Put(want); got != b {
		t.Errorf("13.1: Put of what Get told of %s is %s, not %s", what, short(got), short(b))
	}
	return true
}

// named is a state with what it is.
type named struct {
	name string
	s    api.State
}

// small are states that may be, of few bytes.
func small() []named {
	low, high := all256()
	seen := runs(0, 1, 3, 1, 1, 1, 2, 5, 6, 2, 8, 9, 7, maxDot, maxDot)
	return []named{
		{"nothing", api.State{}},
		{"empty lists", api.State{Seen: []api.Run{}, Facts: []api.Fact{}}},
		{"one run of one dot", state(runs(0, 1, 1))},
		{"one run", state(runs(3, 4, 9))},
		{"the first dot of all", state(runs(0, 1, 1), reg(0, 1, "", ""))},
		{"the last dot of all", state(runs(7, maxDot, maxDot), set(7, maxDot, "", ""))},
		{"a device's longest run", state(runs(4, 1, maxDot), count(4, maxDot, "", 0))},
		{"several runs", state(runs(0, 1, 3, 1, 7, 9))},
		{"several runs of one device", state(runs(5, 1, 1, 5, 3, 3, 5, 5, 1<<32))},
		{"all devices' longest runs", state(runs(0, 1, maxDot, 1, 1, maxDot, 2, 1, maxDot, 3, 1, maxDot, 4, 1, maxDot, 5, 1, maxDot, 6, 1, maxDot, 7, 1, maxDot))},
		{"a register", state(runs(1, 7, 7), reg(1, 7, "k", "text"))},
		{"a member", state(runs(1, 7, 7), set(1, 7, "k", "m\x00"))},
		{"a count below nought", state(runs(2, 1, 2), count(2, 2, "", -5))},
		{"a count above nought", state(runs(2, 1, 2), count(2, 1, "n", 5))},
		{"a count of nought", state(runs(2, 1, 2), count(2, 1, "n", 0))},
		{"the least count", state(runs(2, 1, 2), count(2, 1, "n", -maxUnit))},
		{"the greatest count", state(runs(2, 1, 2), count(2, 1, "n", maxUnit))},
		{"empty texts", state(runs(0, 1, 3), reg(0, 1, "", ""), set(0, 2, "", ""), count(0, 3, "", 1))},
		{"a text of noughts", state(runs(0, 1, 1), reg(0, 1, "\x00\x00", "\x00"))},
		{"texts like wires", state(runs(0, 1, 2), reg(0, 1, string(putHead(nil, 2)), string(putNum(putText(nil, "x"), 1))), set(0, 2, string(putNum(nil, 1)), slowPut(api.State{})))},
		{"bytes that are no runes", state(runs(0, 1, 1), set(0, 1, "\xff\xfe", "\xc3\x28\x80"))},
		{"each byte", state(runs(0, 1, 2), reg(0, 1, low[:maxKey], low), set(0, 2, high[:maxKey], high))},
		{"all kinds", state(seen, reg(0, 1, "a", "x"), set(0, 2, "a", "y"), count(1, 1, "b", -4))},
		{"a fact in each run", state(seen, reg(0, 3, "", "o"), count(1, 1, "b", 1), set(2, 5, "q", ""), count(2, 9, "", 0), reg(7, maxDot, "z", "z"))},
		{"a key by many dots", state(seen, reg(0, 1, "a", "x"), reg(0, 2, "a", "x"), reg(0, 3, "a", "x"))},
		{"keys and kinds that fall", state(seen, count(0, 1, "z", 9), set(0, 2, "k", "z"), reg(0, 3, "a", "a"))},
		{"runs alone", state(seen)},
	}
}

// great are states that may be, of many bytes.
func great() []named {
	key, item := strings.Repeat("k", maxKey), strings.Repeat("i", maxItem)
	l := []named{
		{"the longest texts", state(runs(0, 1, 3), reg(0, 1, key, item), set(0, 2, key, item), count(0, 3, key, -1))},
		{"the longest texts of noughts", state(runs(0, 1, 2), reg(0, 1, strings.Repeat("\x00", maxKey), strings.Repeat("\x00", maxItem)), set(0, 2, strings.Repeat("\xff", maxKey), strings.Repeat("\xff", maxItem)))},
		{"MaxFacts facts but one", state(runs(3, 1, maxFacts), row(3, 1, maxFacts-1)...)},
		{"MaxFacts facts", state(runs(3, 1, maxFacts), row(3, 1, maxFacts)...)},
		{"several hundred runs", state(gaps(700))},
	}
	all := api.State{Seen: gaps(2 * maxFacts)}
	for i := 0; i < len(all.Seen); i += 2 {
		f := set(all.Seen[i].Dev, all.Seen[i].From, key, item)
		if i%3 == 0 {
			f = count(f.Dot.Dev, f.Dot.N, key, maxUnit-i)
		}
		all.Facts = append(all.Facts, f)
	}
	return append(l, named{"MaxFacts facts of all devices", all})
}

// good are states that may be.
func good() []named {
	return append(small(), great()...)
}

// wrong are states that may not be, each in one way.
func wrong() []named {
	a, b, c := reg(0, 1, "a", "x"), set(0, 2, "a", "y"), count(1, 1, "b", -4)
	seen := runs(0, 1, 3, 1, 1, 1, 2, 5, 6, 2, 8, 9, 7, maxDot, maxDot)
	first := func(kind int, key, item string, n int) api.State {
		return state(seen, api.Fact{Dot: dot(0, 1), Key: key, Kind: kind, Item: item, N: n})
	}
	longKey, longItem := strings.Repeat("k", maxKey+1), strings.Repeat("i", maxItem+1)
	return []named{
		{"a run whose ends are the wrong way round", state(runs(0, 2, 1))},
		{"such a run, behind others", state(runs(0, 1, 3, 1, 9, 7))},
		{"a run from 0", state(runs(0, 0, 1))},
		{"a run from below 0", state(runs(0, -1, 1))},
		{"a run of below 0 alone", state(runs(0, -3, -2))},
		{"a run of zeros", state(runs(0, 0, 0))},
		{"a run beyond MaxDot", state(runs(0, 1, maxDot+1))},
		{"a run far beyond MaxDot", state(runs(0, 1, math.MaxInt))},
		{"a run of the least numbers", state(runs(0, math.MinInt, math.MinInt))},
		{"a run of device -1", state(runs(-1, 1, 1))},
		{"a run of device 8", state(runs(devs, 1, 1))},
		{"a run of the greatest device", state(runs(math.MaxInt, 1, 1))},
		{"a run of the least device", state(runs(math.MinInt, 1, 1))},
		{"runs that touch", state(runs(0, 1, 1, 0, 2, 2))},
		{"runs that touch, behind others", state(runs(0, 1, 1, 0, 3, 5, 0, 6, 6, 1, 1, 1))},
		{"runs that overlap", state(runs(0, 1, 2, 0, 2, 3))},
		{"a run within another", state(runs(0, 1, 9, 0, 3, 4))},
		{"a run twice", state(runs(0, 1, 1, 0, 1, 1))},
		{"runs the wrong way round", state(runs(0, 3, 3, 0, 1, 1))},
		{"devices the wrong way round", state(runs(1, 1, 1, 0, 1, 1))},
		{"devices the wrong way round, behind others", state(runs(0, 1, 1, 2, 1, 1, 1, 5, 5))},

		{"a fact, and nothing seen", state(nil, a)},
		{"a dot behind its run", state(runs(0, 1, 3), reg(0, 4, "a", ""))},
		{"a dot ahead of its run", state(runs(0, 2, 3), a)},
		{"a dot in a gap", state(seen, reg(2, 7, "a", ""))},
		{"a dot of another device", state(runs(0, 1, 3), c)},
		{"a dot of device -1", state(seen, reg(-1, 1, "a", ""))},
		{"a dot of device 8", state(seen, reg(devs, 1, "a", ""))},
		{"dot 0", state(seen, reg(0, 0, "a", ""))},
		{"dot -1", state(seen, reg(0, -1, "a", ""))},
		{"a dot beyond MaxDot", state(seen, reg(7, maxDot+1, "a", ""))},
		{"the first not seen", state(runs(0, 2, 3, 1, 1, 1), a, b, c)},
		{"the last not seen", state(runs(0, 1, 3), a, b, c)},

		{"facts the wrong way round, by N", state(seen, b, a)},
		{"facts the wrong way round, by Dev", state(seen, c, a)},
		{"facts that fall by Dev and rise by N", state(seen, c, b)},
		{"the last facts the wrong way round", state(seen, a, c, b)},
		{"a fact twice", state(seen, a, a)},
		{"a dot twice, by two facts", state(seen, a, reg(0, 1, "b", "z"))},
		{"a dot twice, by two kinds", state(seen, a, count(0, 1, "a", 1))},
		{"a dot twice, not side by side", state(seen, a, b, a)},

		{"kind 0", first(0, "a", "", 0)},
		{"kind 4", first(4, "a", "", 0)},
		{"kind -1", first(-1, "a", "", 0)},
		{"kind 257", first(257, "a", "", 0)},
		{"kind 2^32 and 1", first(1<<32+1, "a", "", 0)},
		{"the greatest kind", first(math.MaxInt, "a", "", 0)},
		{"the least kind", first(math.MinInt, "a", "", 0)},
		{"a register with a number", first(api.FReg, "a", "x", 1)},
		{"a register with a number below 0", first(api.FReg, "a", "", -1)},
		{"a member with a number", first(api.FSet, "a", "x", maxUnit)},
		{"a member with a number below 0", first(api.FSet, "a", "", math.MinInt)},
		{"a count with an item", first(api.FCnt, "a", "x", 1)},
		{"a count with an item of a nought", first(api.FCnt, "a", "\x00", 0)},
		{"a count too great", first(api.FCnt, "a", "", maxUnit+1)},
		{"a count too small", first(api.FCnt, "a", "", -maxUnit-1)},
		{"the greatest number", first(api.FCnt, "a", "", math.MaxInt)},
		{"the least number", first(api.FCnt, "a", "", math.MinInt)},
		{"a register's key too long", first(api.FReg, longKey, "", 0)},
		{"a set's key too long", first(api.FSet, longKey, "", 0)},
		{"a count's key too long", first(api.FCnt, longKey, "", 0)},
		{"a register's item too long", first(api.FReg, "", longItem, 0)},
		{"a member too long", first(api.FSet, "", longItem, 0)},
		{"an item far too long", first(api.FReg, "", strings.Repeat("i", 1<<16), 0)},
		{"the last of several not right", state(seen, a, b, count(0, 3, "n", maxUnit+1))},

		{"MaxFacts facts and one", state(runs(3, 1, 2*maxFacts), row(3, 1, maxFacts+1)...)},
		{"twice MaxFacts facts", state(runs(3, 1, 2*maxFacts), row(3, 1, 2*maxFacts)...)},
	}
}

// 13.1: that the states of these tests may be, and may not.
func TestStates(t *testing.T) {
	for _, c := range good() {
		if !facts.May(c.s) || !slowMay(c.s) {
			t.Errorf("8.1: %s may not be", c.name)
		}
	}
	for _, c := range wrong() {
		if facts.May(c.s) || slowMay(c.s) {
			t.Errorf("8.1: %s may be", c.name)
		}
	}
}

// 13.1: Put of the empty state, however it is empty: fifteen bytes.
func TestPutEmpty(t *testing.T) {
	const want = "\x03\x00\x00\x00\x02\x03\x00\x00\x00\x00\x03\x00\x00\x00\x00"
	room := state(runs(0, 1, 5), row(0, 1, 3)...)
	for _, s := range []api.State{{}, {Seen: []api.Run{}}, {Facts: []api.Fact{}}, {Seen: []api.Run{}, Facts: []api.Fact{}}, {Seen: room.Seen[:0], Facts: room.Facts[:0]}} {
		if got := snap.Put(s); got != want || len(got) != 15 {
			t.Errorf("13.1: Put of the empty state is %x", got)
		}
	}
	gets(t, "the empty state's Put", want, api.State{})
}

// 13.1: bytes that were written out by hand.
func TestPutBytes(t *testing.T) {
	for _, c := range []struct {
		s    api.State
		want []string
	}{
		{state(runs(2, 3, 258)), []string{"03 00000002", "03 00000001", "03 00000003", "01 0000000000000002", "01 0000000000000003", "01 0000000000000102", "03 00000000"}},
		{state(runs(7, 1, maxDot), reg(7, 1<<32, "ab", "c")), []string{
			"03 00000002", "03 00000001", "03 00000003", "01 0000000000000007", "01 0000000000000001", "01 0010000000000000",
			"03 00000001", "03 00000006", "01 0000000000000007", "01 0000000100000000", "02 00000002 6162", "01 0000000000000001", "02 00000001 63", "01 0000000000000000",
		}},
		{state(runs(0, 1, 1, 0, 3, 4), set(0, 1, "", "\x00\xff"), count(0, 4, "n", -2)), []string{
			"03 00000002", "03 00000002", "03 00000003", "01 0000000000000000", "01 0000000000000001", "01 0000000000000001",
			"03 00000003", "01 0000000000000000", "01 0000000000000003", "01 0000000000000004",
			"03 00000002", "03 00000006", "01 0000000000000000", "01 0000000000000001", "02 00000000", "01 0000000000000002", "02 00000002 00ff", "01 0000000000000000",
			"03 00000006", "01 0000000000000000", "01 0000000000000004", "02 00000001 6e", "01 0000000000000003", "02 00000000", "01 fffffffffffffffe",
		}},
		{state(runs(1, 1, 1), count(1, 1, "", -maxUnit)), []string{
			"03 00000002", "03 00000001", "03 00000003", "01 0000000000000001", "01 0000000000000001", "01 0000000000000001",
			"03 00000001", "03 00000006", "01 0000000000000001", "01 0000000000000001", "02 00000000", "01 0000000000000003", "02 00000000", "01 ffffff0000000000",
		}},
	} {
		want, err := hex.DecodeString(strings.ReplaceAll(strings.Join(c.want, ""), " ", ""))
		if err != nil {
			t.Fatal(err)
		}
		if got := snap.Put(c.s); got != string(want) {
			t.Errorf("13.1: Put(%v) is %x, not %x", c.s, got, want)
		}
		gets(t, short(string(want)), string(want), c.s)
	}
}

// wireOf is the wire that 13.1 names.
func wireOf(s api.State) api.Wire {
	var seen, left []api.Wire
	for _, r := range s.Seen {
		seen = append(seen, wire.List(wire.Num(r.Dev), wire.Num(r.From), wire.Num(r.To)))
	}
	for _, f := range s.Facts {
		left = append(left, wire.List(wire.Num(f.Dot.Dev), wire.Num(f.Dot.N), wire.Text(f.Key), wire.Num(f.Kind), wire.Text(f.Item), wire.Num(f.N)))
	}
	return wire.List(wire.List(seen...), wire.List(left...))
}

// 13.1: Put is the wire that the chapter names, whole, and part by part.
func TestPutWire(t *testing.T) {
	for _, c := range good() {
		got := snap.Put(c.s)
		if got == "" || got != wire.Put(wireOf(c.s)) || got != slowPut(c.s) {
			t.Errorf("13.1: Put of %s is %s", c.name, short(got))
		}
		w, ok := wire.Get(got)
		if !ok || w.Kind != api.WList || len(w.L) != 2 || w.L[0].Kind != api.WList || w.L[1].Kind != api.WList {
			t.Errorf("13.1: Put of %s is no list of two lists", c.name)
			continue
		}
		if len(w.L[0].L) != len(c.s.Seen) || len(w.L[1].L) != len(c.s.Facts) {
			t.Errorf("13.1: Put of %s has %d runs and %d facts", c.name, len(w.L[0].L), len(w.L[1].L))
			continue
		}
		for i, r := range c.s.Seen {
			if run := w.L[0].L[i]; !wire.Same(run, wire.List(wire.Num(r.Dev), wire.Num(r.From), wire.Num(r.To))) {
				t.Errorf("13.1: Put of %s: the %d-th run is %v", c.name, i, run)
			}
		}
		for i, f := range c.s.Facts {
			fact := w.L[1].L[i]
			if fact.Kind != api.WList || len(fact.L) != 6 {
				t.Errorf("13.1: Put of %s: the %d-th fact is %v", c.name, i, fact)
				continue
			}
			for at, want := range []api.Wire{wire.Num(f.Dot.Dev), wire.Num(f.Dot.N), wire.Text(f.Key), wire.Num(f.Kind), wire.Text(f.Item), wire.Num(f.N)} {
				if !wire.Same(fact.L[at], want) {
					t.Errorf("13.1: Put of %s: of the %d-th fact the %d-th is %v, not %v", c.name, i, at, fact.L[at], want)
				}
			}
		}
	}
}

// 13.1: Put of a state that may not be is nothing; so is Get of the bytes that
// it would have.
func TestWrong(t *testing.T) {
	for _, c := range wrong() {
		if got := snap.Put(c.s); got != "" {
			t.Errorf("13.1: Put of %s is %s", c.name, short(got))
		}
		none(t, c.name, slowPut(c.s))
	}
}

// 13.1: Get of Put.
func TestGet(t *testing.T) {
	for _, c := range good() {
		b := snap.Put(c.s)
		gets(t, c.name, b, c.s)
		s, _ := snap.Get(b)
		if !facts.May(s) || snap.Put(s) != b {
			t.Errorf("13.1: Put of what Get told of %s is another", c.name)
		}
		if len(s.Seen) == 0 && s.Seen != nil || len(s.Facts) == 0 && s.Facts != nil {
			t.Errorf("13.1: Get of %s tells lists of nothing: %#v", c.name, s)
		}
		if !heldAgainst(t, c.name, b) {
			t.Errorf("13.1: %s is told by no Get", c.name)
		}
	}
}

// 13.1: as many runs as a list of a wire may have, and one more, of which a
// wire may not be, though the state may.
func TestRuns(t *testing.T) {
	for n, want := range map[int]bool{maxRuns - 1: true, maxRuns: true, maxRuns + 1: false, 2 * maxRuns: false} {
		for _, l := range [][]api.Fact{nil, row(0, 1, 1), {reg(0, 1, "a", "x"), count(0, 3, "n", -1)}} {
			s := state(gaps(n), l...)
			if !facts.May(s) {
				t.Fatalf("8.1: %d runs may not be", n)
			}
			got := snap.Put(s)
			if got != wire.Put(wireOf(s)) || (got != "") != want {
				t.Errorf("13.1: Put of %d runs has %d bytes", n, len(got))
			}
			if want {
				gets(t, fmt.Sprint(n, " runs"), got, s)
			}
			if b := slowPut(s); !want {
				none(t, fmt.Sprint(n, " runs"), b)
			}
			s.Seen[n-1].To = 0
			if got := snap.Put(s); got != "" {
				t.Errorf("13.1: Put of %d runs, the last of which may not be, has %d bytes", n, len(got))
			}
		}
	}
}

// 13.1: bytes that are cut at each place, and such that begin later.
func TestCut(t *testing.T) {
	for _, c := range small() {
		b := snap.Put(c.s)
		for i := range len(b) {
			none(t, fmt.Sprintf("%s, cut at %d", c.name, i), b[:i])
			if i > 0 {
				none(t, fmt.Sprintf("%s, from %d on", c.name, i), b[i:])
			}
			heldAgainst(t, fmt.Sprintf("%s, without the byte %d", c.name, i), b[:i]+b[i+1:])
		}
	}
	for _, c := range great() {
		b := snap.Put(c.s)
		for i := 0; i < len(b); i += max(1, len(b)/300) {
			none(t, fmt.Sprintf("%s, cut at %d", c.name, i), b[:i])
		}
		none(t, c.name+" without its last byte", b[:len(b)-1])
	}
}

// 13.1: bytes that are longer, by each byte, ahead, behind and in the midst.
func TestLonger(t *testing.T) {
	for _, c := range good() {
		b := snap.Put(c.s)
		for v := range 256 {
			none(t, fmt.Sprintf("%s, and the byte %d", c.name, v), b+string([]byte{byte(v)}))
			none(t, fmt.Sprintf("%s behind the byte %d", c.name, v), string([]byte{byte(v)})+b)
		}
		none(t, c.name+" twice", b+b)
		none(t, c.name+" and the empty state", b+snap.Put(api.State{}))
	}
	for _, c := range small() {
		b := snap.Put(c.s)
		for i := range len(b) + 1 {
			for _, v := range []string{"\x00", "\x01", "\x02", "\x03", "x", "\xff"} {
				heldAgainst(t, fmt.Sprintf("%s with %x at %d", c.name, v, i), b[:i]+v+b[i:])
			}
		}
	}
}

// turned is b with another byte at a place.
func turned(b string, at int, v byte) string {
	return b[:at] + string([]byte{v}) + b[at+1:]
}

// 13.1: one byte turned at each place: another state that may be, whose Put
// these bytes are, or none.
func TestTurned(t *testing.T) {
	states, nones := 0, 0
	for _, c := range small() {
		b := snap.Put(c.s)
		for at := range len(b) {
			for v := range 256 {
				if byte(v) == b[at] {
					continue
				}
				other := turned(b, at, byte(v))
				if !heldAgainst(t, fmt.Sprintf("%s, the byte %d turned into %d", c.name, at, v), other) {
					nones++
					continue
				}
				states++
				if s, _ := snap.Get(other); facts.Same(s, c.s) {
					t.Errorf("13.2: %s, the byte %d turned into %d, is the same", c.name, at, v)
				}
			}
			if t.Failed() {
				return
			}
		}
	}
	if states < 10000 || nones < 10000 {
		t.Errorf("%d states, %d times none", states, nones)
	}
}

// 13.1: so it is where there are many bytes.
func TestTurnedGreat(t *testing.T) {
	r := rand.New(rand.NewSource(8))
	for _, c := range great() {
		b := snap.Put(c.s)
		for range 100 {
			at := r.Intn(len(b))
			for bit := range 8 {
				heldAgainst(t, fmt.Sprintf("%s, the byte %d turned by the bit %d", c.name, at, bit), turned(b, at, b[at]^1<<bit))
			}
		}
	}
}

// nums is a list of these numbers.
func nums(l ...int) api.Wire {
	var out []api.Wire
	for _, n := range l {
		out = append(out, wire.Num(n))
	}
	return wire.List(out...)
}

// factBy is the wire of a fact whose at-th item is w.
func factBy(at int, w api.Wire) api.Wire {
	l := []api.Wire{wire.Num(1), wire.Num(7), wire.Text("k"), wire.Num(2), wire.Text("m"), wire.Num(0)}
	if at >= 0 {
		l[at] = w
	}
	return wire.List(l...)
}

// 13.1: a wire of another shape at each level.
func TestShapes(t *testing.T) {
	num, text, list := wire.Num, wire.Text, wire.List
	run, fact := nums(1, 7, 7), factBy(-1, api.Wire{})
	whole := func(seen, left api.Wire) api.Wire { return list(seen, left) }
	gets(t, "the shape itself", wire.Put(whole(list(run), list(fact))), state(runs(1, 7, 7), set(1, 7, "k", "m")))
	l := []api.Wire{
		num(0), num(1), num(2), num(-1), text(""), text("x"), text(snap.Put(api.State{})), list(), list(list()), list(list(), list(), list()), list(list(), list(), num(0)),
		list(list(list(), list())), list(list(), list(list(), list())), list(num(0), num(0)), list(text(""), text("")),
		whole(num(0), list()), whole(num(1), list(fact)), whole(text(""), list()), whole(text("x"), list(fact)), whole(list(run), num(0)), whole(list(run), num(1)), whole(list(run), text("")),
		whole(list(fact), list(run)), list(list(fact), list(run), list()), list(list(run), list(fact), list()), list(list(run), list(fact), list(run)), list(run, fact), list(run), list(list(run)),
		whole(list(list(run)), list(fact)), whole(list(run), list(list(fact))), whole(run, list(fact)), whole(list(run), fact), whole(nums(), nums(0)), whole(nums(0), nums()), whole(nums(1, 7, 7), list()),
		whole(list(run, run, run), list(fact)),
	}
	for _, r := range []api.Wire{
		num(0), num(1), text(""), text("\x01\x07\x07"), list(), nums(1), nums(1, 7), nums(1, 7, 7, 7), nums(1, 7, 7, 0), nums(0, 1, 7, 7), nums(1, 7, 7, 2, 7, 7), list(run), list(run, run, run),
		list(text("1"), num(7), num(7)), list(num(1), text("7"), num(7)), list(num(1), num(7), text("7")), list(text("1"), text("7"), text("7")),
		list(text(""), num(7), num(7)), list(num(1), text(""), num(7)), list(num(1), num(7), text("")), list(list(), num(7), num(7)), list(num(1), list(), num(7)), list(num(1), num(7), list()),
		list(list(num(1)), num(7), num(7)), list(num(1), list(num(7)), num(7)), list(num(1), num(7), list(num(7))), fact,
	} {
		l = append(l, whole(list(r), list(fact)), whole(list(run, r), list(fact)), whole(list(nums(0, 1, 1), r), list()), whole(list(nums(0, 1, 1), r, nums(2, 1, 1)), list()), whole(list(r), list()))
	}
	others := []api.Wire{
		num(0), num(1), text(""), text("fact"), list(), list(fact), run, nums(1, 7, 0, 2, 0, 0), list(num(1), num(7), text("k"), num(2), text("m")), list(num(1), num(7), text("k"), num(3), num(0)),
		list(append(slices.Clone(fact.L), num(0))...), list(append(slices.Clone(fact.L), text(""))...), list(append([]api.Wire{num(0)}, fact.L...)...), list(append(slices.Clone(fact.L), fact.L...)...),
		list(list(num(1), num(7)), text("k"), num(2), text("m"), num(0)),
	}
	for at, item := range fact.L {
		wrongs := []api.Wire{list(), list(item), run, num(2), num(0)}
		if item.Kind == api.WNum {
			wrongs = []api.Wire{list(), list(item), run, text(""), text(strconv.Itoa(item.N)), text("\x00\x00\x00\x00\x00\x00\x00\x01")}
		}
		for _, w := range wrongs {
			others = append(others, factBy(at, w))
		}
		others = append(others, list(slices.Delete(slices.Clone(fact.L), at, at+1)...), list(slices.Insert(slices.Clone(fact.L), at, item)...))
	}
	for _, f := range others {
		l = append(l, whole(list(run), list(f)), whole(list(run, nums(2, 1, 1)), list(fact, f)), whole(list(nums(0, 1, 1), run), list(f, fact)))
	}
	for i, w := range l {
		if !wire.May(w) {
			t.Fatalf("4.1: wire %d may not be", i)
		}
		none(t, fmt.Sprintf("wire %d, %v", i, w), wire.Put(w))
	}
}

// changes are wires that come of w by another wire, or by another count, in one
// place, at each level.
func changes(w api.Wire) []api.Wire {
	out := []api.Wire{wire.Num(0), wire.Num(1), wire.Num(7), wire.Num(-1), wire.Num(math.MaxInt), wire.Text(""), wire.Text("x"), wire.List(), wire.List(w), wire.List(w, w), nums(0, 1, 1)}
	for i, item := range w.L {
		out = append(out, item, wire.List(slices.Delete(slices.Clone(w.L), i, i+1)...), wire.List(slices.Insert(slices.Clone(w.L), i, item)...))
		if i > 0 {
			l := slices.Clone(w.L)
			l[i-1], l[i] = l[i], l[i-1]
			out = append(out, wire.List(l...))
		}
		for _, other := range changes(item) {
			l := slices.Clone(w.L)
			l[i] = other
			out = append(out, wire.List(l...))
		}
	}
	return out
}

// 13.1: all wires that come of a state's by a change in one place, held against
// a slow way.
func TestChanges(t *testing.T) {
	states, nones := 0, 0
	for _, c := range small() {
		for _, w := range changes(wireOf(c.s)) {
			if heldAgainst(t, fmt.Sprintf("%s, as %v", c.name, w), wire.Put(w)) {
				states++
			} else {
				nones++
			}
		}
		if t.Failed() {
			return
		}
	}
	if states < 200 || nones < 2000 {
		t.Errorf("%d states, %d times none", states, nones)
	}
}

// 13.1: nothing, and bytes that are no wire.
func TestNoWire(t *testing.T) {
	empty := snap.Put(api.State{})
	for i, b := range []string{
		"", "\x00", "\x01", "\x02", "\x03", "\x04", "\xff", "x", "some text", strings.Repeat("\x00", 15), strings.Repeat("\xff", 15), strings.Repeat("\x03", 15), strings.Repeat("\x03", 1<<16),
		"\x03\x00\x00\x00\x02", "\x03\x00\x00\x00\x02\x03\x00\x00\x00\x00", "\x03\xff\xff\xff\xff", "\x03\x00\x00\x00\x02\x03\xff\xff\xff\xff\x03\x00\x00\x00\x00", "\x03\x00\x00\x00\x02\x03\x00\x01\x00\x01\x03\x00\x00\x00\x00",
		"\x03\x00\x00\x00\x02\x03\x00\x00\x00\x00\x04\x00\x00\x00\x00", "\x03\x00\x00\x00\x02\x03\x00\x00\x00\x00\x03\x00\x00\x00\x01", "\x03\x00\x00\x00\x02\x03\x00\x00\x00\x00\x03\x00\x00\x00",
		"\x03\x02\x00\x00\x00\x03\x00\x00\x00\x00\x03\x00\x00\x00\x00", empty[:14] + "\x80", "\x83" + empty[1:], " " + empty, empty + "\n", hex.EncodeToString([]byte(empty)),
		strings.Repeat("\x03\x00\x00\x00\x01", 7) + empty, strings.Repeat("\x03\x00\x00\x00\x01", 1<<16),
	} {
		none(t, fmt.Sprint("no wire ", i), b)
	}
}

// lists are all lists of up to so many of these.
func lists[T any](all []T, long int) [][]T {
	out := [][]T{nil}
	for begin := 0; long > 0; long-- {
		end := len(out)
		for _, l := range out[begin:end] {
			for _, item := range all {
				out = append(out, append(slices.Clone(l), item))
			}
		}
		begin = end
	}
	return out
}

// 13.2: all states of up to two runs and up to two facts of a few: no two that
// may be have one Put, and those that may not have none.
func TestAll(t *testing.T) {
	var seens []api.Run
	for _, dev := range []int{0, 7} {
		for from := 1; from <= 3; from++ {
			for to := from - 1; to <= 3; to++ {
				seens = append(seens, api.Run{Dev: dev, From: from, To: to})
			}
		}
	}
	few := []api.Fact{
		reg(0, 1, "a", ""), reg(0, 1, "", "a"), set(0, 1, "a", ""), count(0, 1, "a", 0), count(0, 1, "a", 1), count(0, 1, "a", -1),
		reg(0, 2, "a", ""), reg(0, 3, "", ""), set(0, 3, "a", "a"), reg(7, 1, "a", ""), count(7, 3, "", 0), {Dot: dot(0, 2), Key: "a"}, {Dot: dot(7, 2), Kind: api.FCnt, Item: "a"},
	}
	puts := map[string]api.State{}
	for _, seen := range lists(seens, 2) {
		for _, l := range lists(few, 2) {
			s := state(seen, l...)
			b := snap.Put(s)
			if want := slowPut(s); slowMay(s) != (b == want) || slowMay(s) == (b == "") {
				t.Fatalf("13.1: Put(%v) is %x", s, b)
			}
			if b == "" {
				continue
			}
			if other, ok := puts[b]; ok {
				t.Fatalf("13.2: %v and %v have one Put", s, other)
			}
			puts[b] = s
		}
	}
	for b, s := range puts {
		gets(t, fmt.Sprint(s), b, s)
	}
	if len(puts) < 500 {
		t.Errorf("only %d of the states may be", len(puts))
	}
}

// 13.2: two states have one Put just if they are the same.
func TestOnePut(t *testing.T) {
	l := good()
	for i, a := range l {
		for j, b := range l {
			other := state(slices.Clone(b.s.Seen), slices.Clone(b.s.Facts)...)
			same := facts.Same(a.s, other)
			if i == j && !same {
				t.Errorf("8.1: %s is not the same as itself", a.name)
			}
			if got := snap.Put(a.s) == snap.Put(other); got != same {
				t.Errorf("13.2: %s and %s have one Put: %v", a.name, b.name, got)
			}
		}
	}
}

// 13.2: so it is by each field, and where texts and numbers go from one to the
// next.
func TestOneField(t *testing.T) {
	seen := runs(0, 1, 5, 3, 2, 4)
	l := []api.State{
		state(seen, reg(0, 1, "a", "x"), count(3, 3, "b", 7)), state(seen), state(nil), state(seen, reg(0, 1, "a", "x")), state(seen, count(3, 3, "b", 7)),
		state(seen, reg(0, 1, "ax", ""), count(3, 3, "b", 7)), state(seen, reg(0, 1, "", "ax"), count(3, 3, "b", 7)), state(seen, set(0, 1, "a", "x"), count(3, 3, "b", 7)),
		state(seen, reg(0, 2, "a", "x"), count(3, 3, "b", 7)), state(seen, reg(0, 1, "a", "x"), count(3, 4, "b", 7)), state(seen, reg(0, 1, "a", "x"), count(3, 3, "b", -7)),
		state(seen, reg(0, 1, "a", "x"), count(3, 3, "b", 8)), state(seen, reg(0, 1, "a", "x\x00"), count(3, 3, "b", 7)), state(seen, reg(0, 1, "a\x00", "x"), count(3, 3, "b", 7)),
		state(seen, reg(0, 1, "a", "x"), reg(3, 3, "b", "7")), state(seen, reg(0, 1, "A", "x"), count(3, 3, "b", 7)), state(seen, reg(3, 3, "a", "x")), state(seen, reg(0, 3, "a", "x")),
	}
	for _, other := range [][]api.Run{runs(0, 1, 5, 3, 2, 5), runs(0, 1, 5, 3, 3, 4), runs(0, 1, 5, 3, 2, 4, 4, 1, 1), runs(0, 1, 6, 3, 2, 4), runs(0, 1, 5, 3, 2, 4, 3, 6, 6)} {
		l = append(l, state(other), state(other, reg(0, 1, "a", "x"), count(3, 3, "b", 7)))
	}
	for i, a := range l {
		for j, b := range l {
			if got := snap.Put(a) == snap.Put(b); got != (i == j) || snap.Put(a) == "" {
				t.Errorf("13.2: %v and %v have one Put: %v", a, b, got)
			}
		}
	}
}

// someOps are deeds of each kind, some of which undo what others did.
func someOps() []api.Op {
	return []api.Op{
		{Kind: api.OSet, Key: "a", Item: "one"}, {Kind: api.OAdd, Key: "s", Item: "m"}, {Kind: api.OInc, Key: "n", N: 5}, {Kind: api.OSet, Key: "a", Item: "two"},
		{Kind: api.OAdd, Key: "s", Item: "o"}, {Kind: api.ORem, Key: "s", Item: "m"}, {Kind: api.OInc, Key: "n", N: -7}, {Kind: api.OAdd, Key: "s", Item: "m"},
		{Kind: api.OSet, Key: "b", Item: ""}, {Kind: api.ODel, Key: "a"}, {Kind: api.OInc, Key: "n", N: 1}, {Kind: api.OAdd, Key: "s", Item: "o"}, {Kind: api.ODel, Key: "s"},
	}
}

// script is a device's deeds, one after another: what each comes to as a delta,
// and each state on the way.
func script(t *testing.T, dev int, s api.State, ops ...api.Op) (deltas, states []api.State) {
	t.Helper()
	states = append(states, s)
	for _, op := range ops {
		delta, e := mutate.Do(s, dev, op)
		if e != api.OK {
			t.Fatalf("11.1: %v by %d on %v is refused: %d", op, dev, s, e)
		}
		s = join.Join(s, delta)
		deltas, states = append(deltas, delta), append(states, s)
	}
	return deltas, states
}

// 13.1 and 13.2, of states and deltas that deeds made: however devices come to
// one state, it has one Put, and another has another.
func TestDeeds(t *testing.T) {
	var all, deltas []api.State
	for dev := range devs {
		l, states := script(t, dev, api.State{}, someOps()...)
		all, deltas = append(append(all, states...), l...), append(deltas, l...)
	}
	_, states := script(t, 4, join.All(deltas...), someOps()...)
	all = append(all, states...)
	r := rand.New(rand.NewSource(13))
	for range 20 {
		var s api.State
		for _, i := range r.Perm(len(deltas)) {
			s = join.Join(s, deltas[i])
		}
		all = append(all, s)
	}
	whole := snap.Put(join.All(deltas...))
	for _, s := range all[len(all)-20:] {
		if snap.Put(s) != whole {
			t.Errorf("13.2: one state, joined in two orders, has two Puts")
		}
	}
	for i, a := range all {
		b := snap.Put(a)
		if b != slowPut(a) {
			t.Errorf("13.1: Put(%s) is %s", short(a), short(b))
		}
		gets(t, short(a), b, a)
		for _, other := range all[:i] {
			if (b == snap.Put(other)) != facts.Same(a, other) {
				t.Errorf("13.2: %s, %s: one Put is %v", short(a), short(other), b == snap.Put(other))
			}
		}
	}
}

// 13.1: deeds on what Get told come to the same as on what was put.
func TestDeedsOn(t *testing.T) {
	_, states := script(t, 2, state(runs(1, 1, 3), reg(1, 1, "a", "other"), set(1, 3, "s", "m")), someOps()...)
	for i, s := range states {
		got, ok := snap.Get(snap.Put(s))
		if !ok {
			t.Fatalf("13.1: Get of %v is false", s)
		}
		for dev := range devs {
			for _, op := range someOps() {
				want, e := mutate.Do(s, dev, op)
				if delta, too := mutate.Do(got, dev, op); too != e || !facts.Same(delta, want) {
					t.Errorf("13.1: state %d: %v by %d comes to %v, %d, not %v, %d", i, op, dev, delta, too, want, e)
				}
			}
		}
	}
}

// room is how much is behind the end of what guarded tells.
const room = 3

// guarded is a copy of l with room behind its end, which is filled.
func guarded[T any](l []T, fill T) []T {
	return append(slices.Clone(l), slices.Repeat([]T{fill}, room)...)[:len(l)]
}

// guard is s in other memory, guarded.
func guard(s api.State) api.State {
	return api.State{Seen: guarded(s.Seen, api.Run{Dev: 4, From: 44, To: 444}), Facts: guarded(s.Facts, reg(4, 44, "a", "behind"))}
}

// shown tells all of s, which is guarded, with the room behind it.
func shown(s api.State) string {
	return fmt.Sprintf("%d, %d: %v %#v", len(s.Seen), len(s.Facts), s.Seen[:len(s.Seen)+room], s.Facts[:len(s.Facts)+room])
}

// spoil writes into all of s, into its spare room too, and behind it.
func spoil(s api.State) {
	_, _ = append(s.Seen, api.Run{Dev: -9}), append(s.Facts, api.Fact{Key: "appended"})
	for i := range s.Seen[:cap(s.Seen)] {
		s.Seen[:cap(s.Seen)][i] = api.Run{Dev: -9, From: -9, To: -9}
	}
	for i := range s.Facts[:cap(s.Facts)] {
		s.Facts[:cap(s.Facts)][i] = api.Fact{Dot: dot(-9, -9), Key: "spoilt", Kind: -9, Item: "spoilt", N: -9}
	}
}

// R3: what Put is handed stays as it was, behind its end too, also one that may
// not be; what it told stays as it was whoever writes into that.
func TestPutMemory(t *testing.T) {
	for _, c := range append(good(), wrong()...) {
		s := guard(c.s)
		was, want := shown(s), strings.Clone(snap.Put(c.s))
		got := snap.Put(s)
		if shown(s) != was {
			t.Errorf("R3: Put turned %s into %s", was, shown(s))
		}
		spoil(s)
		if got != want {
			t.Errorf("R3: Put of %s keeps what it was handed", c.name)
		}
	}
}

// R3: what Get tells shares no memory with what it told before, nor with its
// spare room; and once more it tells the same.
func TestGetMemory(t *testing.T) {
	for _, c := range good() {
		b := snap.Put(c.s)
		was := strings.Clone(b)
		first, _ := snap.Get(b)
		second, _ := snap.Get(b)
		spoil(first)
		if !facts.Same(second, c.s) {
			t.Errorf("R3: two answers of Get of %s share memory", c.name)
		}
		gets(t, c.name+" once more", b, c.s)
		spoil(second)
		gets(t, c.name+" in other memory", was, c.s)
		if b != was {
			t.Errorf("R3: Get of %s turned what it was handed", c.name)
		}
	}
}

// overlap tells whether a and b share memory.
func overlap(a, b string) bool {
	if a == "" || b == "" {
		return false
	}
	x, y := uintptr(unsafe.Pointer(unsafe.StringData(a))), uintptr(unsafe.Pointer(unsafe.StringData(b)))
	return x < y+uintptr(len(b)) && y < x+uintptr(len(a))
}

// texts are all those of s.
func texts(s api.State) []string {
	var l []string
	for _, f := range s.Facts {
		l = append(l, f.Key, f.Item)
	}
	return l
}

// R3: the texts that Get tells are new memory, too: who keeps one of them does
// not keep all of the bytes. So is what Put tells.
func TestTextMemory(t *testing.T) {
	for _, c := range small() {
		b := snap.Put(c.s)
		for _, text := range texts(c.s) {
			if overlap(b, text) {
				t.Errorf("R3: Put of %s shares memory with %q", c.name, text)
			}
		}
		first, _ := snap.Get(b)
		second, _ := snap.Get(b)
		for i, text := range texts(first) {
			if overlap(b, text) {
				t.Errorf("R3: Get of %s shares memory with %q", c.name, text)
			}
			for j, other := range append(texts(second), texts(first)[:i]...) {
				// A text of one byte has no memory of its own.
				if len(text) > 1 && overlap(text, other) {
					t.Errorf("R3: Get of %s: %q shares memory with the %d-th, %q", c.name, text, j, other)
				}
			}
		}
	}
}

// R5: the same calls tell the same, whatever was called in between.
func TestAgain(t *testing.T) {
	l := append(good(), wrong()...)
	say := func() string {
		text := ""
		for _, c := range l {
			b := snap.Put(c.s)
			s, ok := snap.Get(b)
			other, too := snap.Get(slowPut(c.s))
			text += fmt.Sprintf("%x %v %v %v %v\n", b, s, ok, other, too)
		}
		return text
	}
	first := say()
	for i := range 5 {
		snap.Put(state(runs(i, 1, i), row(i, 1, i)...))
		s, _ := snap.Get(slowPut(l[i].s))
		spoil(s)
		snap.Get("\x03" + first[:i])
		if say() != first {
			t.Fatal("R5: the same calls tell another")
		}
	}
}

// scattered is a state by bytes: three of x are a run, four of y a fact. Neither
// need be as it is to be.
func scattered(x, y []byte) api.State {
	edges := []int{1, 2, 3, 4, 5, 6, 7, 8, 9, 11, 15, 0, -1, maxDot - 2, maxDot, maxDot + 1, math.MaxInt, math.MinInt}
	counts := []int{0, 0, 0, 1, -1, 7, -7, maxUnit, -maxUnit, maxUnit + 1, -maxUnit - 1, math.MaxInt, math.MinInt}
	items := []string{"", "", "", "a", "b", "\x00", "some text", strings.Repeat("i", maxItem), strings.Repeat("i", maxItem+1)}
	var s api.State
	for i := 0; i+2 < len(x); i += 3 {
		from := edges[int(x[i+1])%len(edges)]
		s.Seen = append(s.Seen, api.Run{Dev: int(x[i] % 9), From: from, To: from + int(x[i+2]%5)})
	}
	for i := 0; i+3 < len(y); i += 4 {
		f := api.Fact{Dot: dot(int(y[i]%9), edges[int(y[i]/9)%len(edges)]), Key: strings.Repeat("k", int(y[i+1]%(maxKey+2))), Kind: int(y[i+2] % 5)}
		switch f.Kind {
		case api.FReg, api.FSet:
			f.Item = items[int(y[i+3])%len(items)]
		default:
			f.N = counts[int(y[i+3])%len(counts)]
		}
		if y[i+2] > 240 {
			f.Item, f.N = items[int(y[i+3])%len(items)], counts[int(y[i+3])%len(counts)]
		}
		s.Facts = append(s.Facts, f)
	}
	return s
}

// putHeld tells the test whether Put of s is what the slow way tells, and Get of
// these bytes, whether s may be or not.
func putHeld(t *testing.T, s api.State) {
	t.Helper()
	b := slowPut(s)
	want := b
	if !slowMay(s) {
		want = ""
	}
	if got := snap.Put(s); got != want {
		t.Errorf("13.1: Put(%s) is %s, not %s", short(s), short(got), short(want))
	}
	if heldAgainst(t, short(s), b) != (want != "") {
		t.Errorf("13.1: %s and its bytes, %s", short(s), short(b))
	}
}

// sorted is s with its runs and facts in order.
func sorted(s api.State) api.State {
	slices.SortFunc(s.Seen, func(a, b api.Run) int { return facts.Cmp(dot(a.Dev, a.From), dot(b.Dev, b.From)) })
	slices.SortFunc(s.Facts, func(a, b api.Fact) int { return facts.Cmp(a.Dot, b.Dot) })
	return s
}

// R1: every call ends, and none panics, whatever it is given: states at random,
// and bytes at random, and such as come of a state's by a few changes.
func TestAnything(t *testing.T) {
	r := rand.New(rand.NewSource(13))
	some := func(n int) []byte {
		b := make([]byte, r.Intn(n))
		r.Read(b)
		return b
	}
	var puts []string
	for _, c := range small() {
		puts = append(puts, snap.Put(c.s))
	}
	may := 0
	for i := range 60000 {
		s := scattered(some(10), some(13))
		if i%2 == 0 {
			s = sorted(s)
		}
		if facts.May(s) {
			may++
		}
		putHeld(t, s)
		heldAgainst(t, "random bytes", string(some(40)))
		b := []byte(puts[r.Intn(len(puts))])
		for range r.Intn(4) + 1 {
			at := r.Intn(len(b))
			switch r.Intn(4) {
			case 0:
				b = slices.Delete(b, at, min(len(b), at+r.Intn(10)))
			case 1:
				b = slices.Insert(b, at, some(12)...)
			default:
				b[at] = byte(r.Intn(4))
			}
			if len(b) == 0 {
				b = []byte{3}
			}
		}
		heldAgainst(t, "changed bytes", string(b))
		if t.Failed() {
			return
		}
	}
	if may < 1000 {
		t.Errorf("only %d of the states may be", may)
	}
}

// R1: what is far too long comes to an end soon.
func TestLong(t *testing.T) {
	const long = 1 << 20
	seen := gaps(long)
	l := row(0, 1, long)
	for _, s := range []api.State{state(seen), state(seen, l...), state(runs(0, 1, long), l...), state(nil, reg(0, 1, strings.Repeat("k", 1<<26), strings.Repeat("i", 1<<26)))} {
		if got := snap.Put(s); got != "" {
			t.Errorf("13.1: Put of what is too long has %d bytes", len(got))
		}
	}
	none(t, "what is too long", slowPut(state(seen)))
	none(t, "facts that are too many", slowPut(state(runs(0, 1, long), l[:maxRuns]...)))
	none(t, "noughts", strings.Repeat("\x00", 1<<26))
	none(t, "a text", wire.Put(wire.Text(strings.Repeat("x", 1<<20))))
	texts := make([]api.Wire, maxRuns)
	for i := range texts {
		texts[i] = wire.Text("")
	}
	none(t, "texts for runs", wire.Put(wire.List(wire.List(texts...), wire.List())))
	none(t, "texts for facts", wire.Put(wire.List(wire.List(), wire.List(texts...))))
	none(t, "texts for lists", wire.Put(wire.List(texts...)))
}

// 13.1 and 13.2, held against a slow way.
func FuzzSnap(f *testing.F) {
	for _, c := range append(small(), wrong()...) {
		f.Add(slowPut(c.s), []byte{}, []byte{})
	}
	f.Add("", []byte{0, 0, 4, 1, 3, 2}, []byte{0, 1, 1, 4, 9, 2, 3, 5, 10, 41, 2, 0})
	f.Add("\x03", []byte("some runs"), []byte("some facts by dots"))
	f.Fuzz(func(t *testing.T, b string, x, y []byte) {
		heldAgainst(t, "bytes", b)
		s := scattered(x, y)
		putHeld(t, s)
		putHeld(t, sorted(s))
	})
}

func BenchmarkSnap(b *testing.B) {
	for _, n := range []int{0, 20, maxFacts} {
		s := state(runs(3, 1, n+1), row(3, 1, n)...)
		bytes := snap.Put(s)
		b.Run(fmt.Sprint("Put/", n), func(b *testing.B) {
			b.SetBytes(int64(len(bytes)))
			for b.Loop() {
				snap.Put(s)
			}
		})
		b.Run(fmt.Sprint("Get/", n), func(b *testing.B) {
			b.SetBytes(int64(len(bytes)))
			for b.Loop() {
				snap.Get(bytes)
			}
		})
	}
}
