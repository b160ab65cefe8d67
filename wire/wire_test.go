package wire_test

import (
	"encoding/binary"
	"encoding/hex"
	"fmt"
	"math"
	"math/rand"
	"runtime"
	"slices"
	"strconv"
	"strings"
	"testing"

	"deaddrop/api"
	"deaddrop/wire"
)

const (
	maxText = 1 << 20
	maxList = 1 << 16
)

// allBytes is each byte once.
var allBytes = func() string {
	b := make([]byte, 256)
	for i := range b {
		b[i] = byte(i)
	}
	return string(b)
}()

// bytesOf is Put of what may be, written anew by the library's numbers.
func bytesOf(w api.Wire) string {
	return string(appended(nil, w))
}

// appended is b, and bytesOf w behind it.
func appended(b []byte, w api.Wire) []byte {
	b = append(b, byte(w.Kind))
	switch w.Kind {
	case api.WNum:
		return binary.BigEndian.AppendUint64(b, uint64(w.N))
	case api.WText:
		return append(binary.BigEndian.AppendUint32(b, uint32(len(w.S))), w.S...)
	}
	b = binary.BigEndian.AppendUint32(b, uint32(len(w.L)))
	for _, item := range w.L {
		b = appended(b, item)
	}
	return b
}

// around is w, within so many lists, each of which has items on both sides.
func around(w api.Wire, lists int) api.Wire {
	for range lists {
		w = wire.List(wire.Num(7), w, wire.Text("behind"))
	}
	return w
}

// lists is so many lists in one another, the innermost of l.
func lists(n int, l ...api.Wire) api.Wire {
	w := wire.List(l...)
	for range n - 1 {
		w = wire.List(w)
	}
	return w
}

// many is a list of n numbers.
func many(n int) api.Wire {
	l := make([]api.Wire, n)
	for i := range l {
		l[i] = wire.Num(i)
	}
	return wire.List(l...)
}

// brief is how w begins, for a message.
func brief(w api.Wire) string {
	return fmt.Sprintf("%.80s", fmt.Sprintf("%v", w))
}

// isZero tells whether w is the zero value.
func isZero(w api.Wire) bool {
	return w.Kind == 0 && w.N == 0 && w.S == "" && len(w.L) == 0
}

// some is a wire of a source that always begins alike, at most so deep.
func some(r *rand.Rand, room int) api.Wire {
	switch kind := r.Intn(4); {
	case kind == 0:
		return wire.Num(int(r.Uint64() >> r.Intn(64)))
	case kind == 1 || room == 0:
		b := make([]byte, r.Intn(20))
		r.Read(b)
		return wire.Text(string(b))
	}
	l := make([]api.Wire, r.Intn(5))
	for i := range l {
		l[i] = some(r, room-1)
	}
	return wire.List(l...)
}

// good is wires that may be, at the edges and between.
func good() []api.Wire {
	l := []api.Wire{
		wire.List(), {Kind: api.WNum, L: []api.Wire{}}, {Kind: api.WText, L: make([]api.Wire, 0, 5)}, {Kind: api.WList, L: []api.Wire{}},
		wire.List(wire.Num(0)), wire.List(wire.Text("")), wire.List(wire.List()), wire.List(wire.Num(-1), wire.Text("text"), wire.List(wire.Num(2)), wire.List()),
		lists(api.MaxDeep), lists(api.MaxDeep-1, wire.List(), wire.List()), lists(api.MaxDeep, wire.Num(1), wire.Text("x"), wire.Num(2)),
		wire.List(wire.Num(1), lists(api.MaxDeep-1), wire.Text("x"), lists(api.MaxDeep-1, wire.Num(1))),
	}
	for _, n := range []int{0, 1, -1, 255, 256, 257, -256, 1<<31 - 1, 1 << 31, 1 << 32, -1 << 32, 0x0102030405060708, math.MaxInt, math.MaxInt - 1, math.MinInt, math.MinInt + 1} {
		l = append(l, wire.Num(n))
	}
	for _, s := range []string{"", "a", "\x00", "text", "\xff\xfe", "\xc3\x28", "ä世\U0001F600", allBytes, strings.Repeat(allBytes, 2), strings.Repeat("x", 1<<16)} {
		l = append(l, wire.Text(s))
	}
	return l
}

// bad is wires that may not be.
func bad() []api.Wire {
	num := []api.Wire{wire.Num(1)}
	l := []api.Wire{
		{}, {S: "x"}, {N: 1}, {L: num},
		{Kind: api.WNum, S: "x"}, {Kind: api.WNum, N: 1, S: "\x00"}, {Kind: api.WNum, L: num}, {Kind: api.WNum, L: make([]api.Wire, 1)},
		{Kind: api.WText, N: 1}, {Kind: api.WText, S: "x", N: -1}, {Kind: api.WText, L: num}, {Kind: api.WText, S: "x", L: make([]api.Wire, 1)},
		{Kind: api.WList, N: 1}, {Kind: api.WList, N: math.MinInt, L: num}, {Kind: api.WList, S: "x"}, {Kind: api.WList, S: "\x00", L: num},
		wire.Text(strings.Repeat("x", maxText+1)), many(maxList + 1),
		lists(api.MaxDeep + 1), lists(api.MaxDeep+1, wire.Num(1)), lists(100), wire.List(wire.Num(1), lists(api.MaxDeep)), wire.List(lists(api.MaxDeep-1), lists(api.MaxDeep), wire.Num(1)),
	}
	for _, kind := range []int{0, 4, 5, 255, 256 + api.WNum, 256 + api.WText, 256 + api.WList, 1<<32 + api.WNum, -1, -255, -api.WList, math.MinInt + api.WNum, math.MinInt, math.MaxInt} {
		l = append(l, api.Wire{Kind: kind}, api.Wire{Kind: kind, N: 1}, api.Wire{Kind: kind, S: "x"}, api.Wire{Kind: kind, L: num})
	}
	return l
}

// 4.1: Num, Text and List are of that Kind, all else is zero.
func TestMade(t *testing.T) {
	for _, n := range []int{0, 1, -1, math.MaxInt, math.MinInt} {
		if w := wire.Num(n); w.Kind != api.WNum || w.N != n || w.S != "" || len(w.L) != 0 {
			t.Errorf("4.1: Num(%d) = %v", n, w)
		}
	}
	for _, s := range []string{"", "text", allBytes, strings.Repeat("x", maxText), strings.Repeat("x", maxText+1)} {
		if w := wire.Text(s); w.Kind != api.WText || w.N != 0 || w.S != s || len(w.L) != 0 {
			t.Errorf("4.1: Text of %d bytes is another", len(s))
		}
	}
	for _, l := range [][]api.Wire{nil, {}, {wire.Num(1)}, good(), bad(), {{}, {Kind: 9, N: 1, S: "x", L: []api.Wire{{Kind: -1}}}}} {
		if w := wire.List(l...); w.Kind != api.WList || w.N != 0 || w.S != "" || !slices.EqualFunc(w.L, l, wire.Same) {
			t.Errorf("4.1: List of %d is another", len(l))
		}
	}
}

// 4.1: the bytes of each kind, written out.
func TestPutKnown(t *testing.T) {
	for _, c := range []struct {
		w    api.Wire
		want string
	}{
		{wire.Num(0), "010000000000000000"},
		{wire.Num(1), "010000000000000001"},
		{wire.Num(-1), "01ffffffffffffffff"},
		{wire.Num(-2), "01fffffffffffffffe"},
		{wire.Num(math.MaxInt), "017fffffffffffffff"},
		{wire.Num(math.MinInt), "018000000000000000"},
		{wire.Num(0x0102030405060708), "010102030405060708"},
		{wire.Text(""), "0200000000"},
		{wire.Text("\x00\xff"), "020000000200ff"},
		{wire.Text(strings.Repeat("x", 0x10203)), "0200010203" + strings.Repeat("78", 0x10203)},
		{wire.List(), "0300000000"},
		{wire.List(wire.Num(1), wire.Text("a"), wire.List()), "0300000003" + "010000000000000001" + "020000000161" + "0300000000"},
		{wire.List(wire.List(wire.Text("a"), wire.Text("b")), wire.List(wire.Num(-1))), "0300000002" + "0300000002" + "020000000161" + "020000000162" + "0300000001" + "01ffffffffffffffff"},
	} {
		if got := hex.EncodeToString([]byte(wire.Put(c.w))); got != c.want {
			t.Errorf("4.1: Put(%s) = %.80s, not %.80s", brief(c.w), got, c.want)
		}
	}
}

// 4.1, 4.2: what may be has bytes, which say it, within lists too.
func TestWhatMayBe(t *testing.T) {
	for _, w := range good() {
		for n := range api.MaxDeep + 1 {
			holds(t, around(w, n), n+deep(w) <= api.MaxDeep)
		}
	}
}

// deep tells how deep w is.
func deep(w api.Wire) int {
	if w.Kind != api.WList {
		return 0
	}
	most := 0
	for _, item := range w.L {
		most = max(most, deep(item))
	}
	return most + 1
}

// holds asks May, Put and Get of w, which may be or not.
func holds(t *testing.T, w api.Wire, may bool) {
	t.Helper()
	if wire.May(w) != may {
		t.Errorf("4.1: May(%s) = %v", brief(w), !may)
	}
	want := ""
	if may {
		want = bytesOf(w)
	}
	s := wire.Put(w)
	if s != want {
		t.Errorf("4.1: Put(%s) has %d bytes, not these %d", brief(w), len(s), len(want))
	}
	got, ok := wire.Get(s)
	if ok != may || may && !wire.Same(got, w) || !may && !isZero(got) {
		t.Errorf("4.2: Get of Put(%s) = %s, %v", brief(w), brief(got), ok)
	}
}

// 4.1: what may not be has no bytes, within lists neither.
func TestWhatMayNotBe(t *testing.T) {
	for _, w := range bad() {
		for n := range api.MaxDeep + 1 {
			holds(t, around(w, n), false)
		}
	}
}

// 4.1: texts and lists as long as may be, and longer by one.
func TestLongest(t *testing.T) {
	for _, n := range []int{maxText - 1, maxText, maxText + 1, 2 * maxText} {
		w := wire.Text(strings.Repeat("x", n))
		holds(t, w, n <= maxText)
		holds(t, lists(api.MaxDeep, w, w), n <= maxText)
		if _, ok := wire.Get(bytesOf(w)); ok != (n <= maxText) {
			t.Errorf("4.1: Get of a text of %d bytes: %v", n, ok)
		}
	}
	for _, n := range []int{maxList - 1, maxList, maxList + 1, 2 * maxList} {
		empty := wire.List(slices.Repeat([]api.Wire{wire.Text("")}, n)...)
		holds(t, empty, n <= maxList)
		holds(t, wire.List(empty, empty), n <= maxList)
		s := binary.BigEndian.AppendUint32([]byte{api.WList}, uint32(n))
		for _, item := range []string{bytesOf(wire.Num(-1)), bytesOf(wire.Text("")), bytesOf(wire.List())} {
			w, ok := wire.Get(string(s) + strings.Repeat(item, n))
			if ok != (n <= maxList) || ok && len(w.L) != n || !ok && !isZero(w) {
				t.Errorf("4.1: Get of a list of %d: %d, %v", n, len(w.L), ok)
			}
		}
	}
}

// 4.1: bytes of lists in one another, as deep as may be, and deeper.
func TestDeepest(t *testing.T) {
	for n := range 20 {
		for _, inner := range []string{"0300000000", "0300000001" + "010000000000000001", "0300000001" + "0200000000"} {
			b, _ := hex.DecodeString(strings.Repeat("0300000001", n) + inner)
			w, ok := wire.Get(string(b))
			if ok != (n+1 <= api.MaxDeep) || ok && deep(w) != n+1 || !ok && !isZero(w) {
				t.Errorf("4.1: Get of %d lists in one another: %v, %v", n+1, w, ok)
			}
		}
	}
	if _, ok := wire.Get(strings.Repeat("\x03\x00\x00\x00\x01", 1<<20)); ok {
		t.Error("4.1: Get of 2^20 lists in one another")
	}
}

// 4.2: all beginnings of bytes, and what is longer by any byte.
func TestCutOrLonger(t *testing.T) {
	for _, w := range good() {
		s := wire.Put(w)
		if len(s) > 1000 {
			continue
		}
		for n := range len(s) {
			none(t, "cut", s[:n])
			none(t, "without its beginning", s[n+1:])
			none(t, "without a byte", s[:n]+s[n+1:])
		}
		for i := range 256 {
			none(t, "longer", s+string([]byte{byte(i)}))
		}
		none(t, "twice", s+s)
	}
	long := wire.Put(wire.Text(strings.Repeat("x", maxText)))
	for _, n := range []int{0, 1, 4, 5, 6, maxText / 2, len(long) - 1} {
		none(t, "cut", long[:n])
	}
}

// none asks that Get says nothing of s, or, if it does, that s is its Put.
func none(t *testing.T, what, s string) {
	t.Helper()
	w, ok := wire.Get(s)
	if ok && (what == "cut" || what == "longer" || what == "twice" || bytesOf(w) != s) || !ok && !isZero(w) {
		t.Errorf("4.2: Get of %s, %.80x = %s, %v", what, s, brief(w), ok)
	}
}

// 4.1: bytes that begin with another Kind, or of which an item does.
func TestOtherKinds(t *testing.T) {
	for _, rest := range []string{"", "\x00", "\x00\x00\x00\x00", "\x00\x00\x00\x00\x00\x00\x00\x00", "\x00\x00\x00\x01x"} {
		for kind := range 256 {
			s := string([]byte{byte(kind)}) + rest
			want := kind == api.WNum && len(rest) == 8 || kind == api.WText && len(rest) != 8 && len(rest) >= 4 || kind == api.WList && rest == "\x00\x00\x00\x00"
			w, ok := wire.Get(s)
			if ok != want || ok && w.Kind != kind || !ok && !isZero(w) {
				t.Errorf("4.1: Get(%x) = %v, %v", s, w, ok)
			}
			in, ok := wire.Get("\x03\x00\x00\x00\x02\x02\x00\x00\x00\x00" + s)
			if ok != want || ok && !wire.Same(in, wire.List(wire.Text(""), w)) || !ok && !isZero(in) {
				t.Errorf("4.1: Get of a list with %x = %v, %v", s, in, ok)
			}
		}
	}
}

// 4.1: counts that are greater, or less, than what stands behind them.
func TestOtherCounts(t *testing.T) {
	for _, count := range []uint32{0, 1, 2, 3, 4, 5, 1 << 8, 1 << 16, 1<<16 + 1, 1 << 20, 1<<20 + 1, 1 << 24, 1<<31 - 1, 1 << 31, 1<<32 - 3, 1<<32 - 1} {
		text := string(binary.BigEndian.AppendUint32([]byte{api.WText}, count)) + "abc"
		list := string(binary.BigEndian.AppendUint32([]byte{api.WList}, count)) + strings.Repeat("\x02\x00\x00\x00\x00", 3)
		for _, s := range []string{text, list} {
			for _, ahead := range []string{"", "\x03\x00\x00\x00\x01", "\x03\x00\x00\x00\x02\x02\x00\x00\x00\x00"} {
				if w, ok := wire.Get(ahead + s); ok != (count == 3) || !ok && !isZero(w) {
					t.Errorf("4.1: Get of the count %d: %v, %v", count, w, ok)
				}
			}
		}
	}
}

// R1: a count alone, however often it stands there, takes no memory to speak of.
func TestCountTakesNoMemory(t *testing.T) {
	s := "\x03\x00\x00\x00\x64" + strings.Repeat("\x03\x00\x01\x00\x00", 100)
	var ahead, behind runtime.MemStats
	runtime.ReadMemStats(&ahead)
	for range 100 {
		if _, ok := wire.Get(s); ok {
			t.Fatal("4.1: Get of counts alone")
		}
	}
	runtime.ReadMemStats(&behind)
	if took := behind.TotalAlloc - ahead.TotalAlloc; took > 100*maxList {
		t.Errorf("R1: %d bytes were taken", took)
	}
}

// 4.1, 4.2: wires of all shapes, and their bytes with one of them turned.
func TestManyWires(t *testing.T) {
	r := rand.New(rand.NewSource(1))
	for range 3000 {
		w := some(r, r.Intn(api.MaxDeep+3))
		holds(t, w, deep(w) <= api.MaxDeep)
		b := []byte(wire.Put(w))
		if len(b) == 0 {
			continue
		}
		for range 20 {
			at, bit := r.Intn(len(b)), byte(1)<<r.Intn(8)
			b[at] ^= bit
			if got, ok := wire.Get(string(b)); ok && bytesOf(got) != string(b) || !ok && !isZero(got) || ok && wire.Same(got, w) {
				t.Fatalf("4.2: Get(%x) = %v, %v", b, got, ok)
			}
			b[at] ^= bit
		}
	}
}

// FuzzGet asks that what Get says has just the bytes that it was told.
func FuzzGet(f *testing.F) {
	for _, w := range good() {
		if s := wire.Put(w); len(s) < 1000 {
			f.Add(s)
		}
	}
	f.Fuzz(func(t *testing.T, s string) {
		w, ok := wire.Get(s)
		if ok && (!wire.May(w) || wire.Put(w) != s || bytesOf(w) != s) || !ok && !isZero(w) {
			t.Errorf("4.2: Get(%x) = %v, %v", s, w, ok)
		}
	})
}

// 4.1: Same, of wires that differ in one place alone, which may not be too.
func TestSame(t *testing.T) {
	all := []api.Wire{
		{}, {Kind: 1}, {Kind: 2}, {Kind: 3}, {Kind: 9}, {Kind: -1}, {Kind: math.MinInt},
		{Kind: 1, N: 1}, {Kind: 1, N: -1}, {Kind: 1, N: 1 << 32}, {Kind: 1, N: 1 << 62}, {Kind: 1, N: math.MinInt}, {Kind: 2, N: 1}, {Kind: 3, N: 1}, {N: 1},
		{Kind: 2, S: "a"}, {Kind: 2, S: "b"}, {Kind: 2, S: "ab"}, {Kind: 2, S: "a\x00"}, {Kind: 2, S: "\x00"}, {Kind: 2, S: "\xff"}, {Kind: 2, S: "\ufffd"}, {Kind: 1, S: "a"}, {Kind: 3, S: "a"}, {S: "a"},
		{Kind: 3, L: []api.Wire{{}}}, {Kind: 3, L: []api.Wire{{}, {}}}, {Kind: 3, L: []api.Wire{{Kind: 1}}}, {Kind: 1, L: []api.Wire{{}}}, {Kind: 2, L: []api.Wire{{}}}, {L: []api.Wire{{}}},
		{Kind: 3, L: []api.Wire{{Kind: 1}, {Kind: 2}}}, {Kind: 3, L: []api.Wire{{Kind: 2}, {Kind: 1}}}, {Kind: 3, L: []api.Wire{{Kind: 1}, {Kind: 2}, {Kind: 2}}}, {Kind: 3, L: []api.Wire{{Kind: 1}, {Kind: 2, S: "x"}}}, {Kind: 3, L: []api.Wire{{Kind: 1, N: 1}, {Kind: 2}}},
		{Kind: 3, L: []api.Wire{{Kind: 3}}}, {Kind: 3, L: []api.Wire{{Kind: 3, L: []api.Wire{{}}}}}, {Kind: 3, L: []api.Wire{{Kind: 3, L: []api.Wire{{N: 1}}}}}, {Kind: 3, L: []api.Wire{{Kind: 3, L: []api.Wire{{S: "x"}}}}},
	}
	for i, a := range all {
		for j, b := range all {
			if got := wire.Same(a, b); got != (i == j) {
				t.Errorf("4.1: Same(%v, %v) = %v", a, b, got)
			}
			if got := wire.Same(around(a, 8), around(b, 8)); got != (i == j) {
				t.Errorf("4.1: Same(%v, %v), within lists, = %v", a, b, got)
			}
		}
	}
}

// 4.1, R3: a nil list and an empty one are one.
func TestSameOfNoLists(t *testing.T) {
	for kind := range 5 {
		none, empty := api.Wire{Kind: kind}, api.Wire{Kind: kind, L: make([]api.Wire, 0, 3)}
		if !wire.Same(none, empty) || !wire.Same(empty, none) || !wire.Same(wire.List(none), wire.List(empty)) {
			t.Errorf("4.1: kind %d: nil and empty are not the same", kind)
		}
		if wire.May(none) != wire.May(empty) || wire.Put(none) != wire.Put(empty) {
			t.Errorf("4.1: kind %d: nil may be %v, empty %v", kind, wire.May(none), wire.May(empty))
		}
	}
}

// R1: as deep as may be handed in.
func TestFarTooDeep(t *testing.T) {
	build := func() api.Wire {
		w := api.Wire{Kind: api.WList}
		for range 1<<16 - 3 {
			w = api.Wire{Kind: api.WList, L: []api.Wire{w}}
		}
		return w
	}
	w := build()
	if wire.May(w) || wire.Put(w) != "" || !wire.Same(w, build()) || wire.Same(w, w.L[0]) || !wire.Same(wire.List(w), wire.List(build())) {
		t.Error("R1: so many lists in one another")
	}
}

// R3: what List tells is new memory, down to the deepest list; what is handed in stays.
func TestListIsNew(t *testing.T) {
	back := []api.Wire{wire.Num(1), {Kind: 9, S: "x", L: []api.Wire{{L: []api.Wire{wire.Num(5)}}}}, wire.Num(3)}
	again := func() []api.Wire {
		return []api.Wire{wire.Num(1), {Kind: 9, S: "x", L: []api.Wire{{L: []api.Wire{wire.Num(5)}}}}, wire.Num(3)}
	}
	in := back[:2]
	w := wire.List(in...)
	scribble(&w)
	if !slices.EqualFunc(back, again(), wire.Same) {
		t.Errorf("R3: what was handed in is %v", back)
	}
	w = wire.List(in...)
	for i := range back {
		scribble(&back[i])
	}
	if !slices.EqualFunc(w.L, again()[:2], wire.Same) {
		t.Errorf("R3: what was told is %v", w)
	}
	for _, empty := range [][]api.Wire{back[:0], back[1:1]} {
		if w := wire.List(empty...); cap(w.L) != 0 && &w.L[:1][0] == &empty[:1][0] {
			t.Error("R3: spare room of what was handed in")
		}
	}
}

// R3: an item that stands in a list twice, or the list of which is spare room
// of another, is not one memory in what is told.
func TestItemsAreNew(t *testing.T) {
	shared := []api.Wire{wire.Num(1), wire.Num(2), wire.Num(3)}
	a, b := api.Wire{Kind: api.WList, L: shared[:1]}, api.Wire{Kind: api.WList, L: shared}
	w := wire.List(a, b, b)
	w.L[0].L = append(w.L[0].L, wire.Num(9))
	w.L[1].L[0].N = 8
	if want := wire.List(wire.List(wire.Num(1), wire.Num(9)), wire.List(wire.Num(8), wire.Num(2), wire.Num(3)), wire.List(wire.Num(1), wire.Num(2), wire.Num(3))); !wire.Same(w, want) {
		t.Errorf("R3: %v, not %v", w, want)
	}
	if shared[0].N != 1 || shared[1].N != 2 {
		t.Errorf("R3: what was handed in is %v", shared)
	}
}

// scribble writes into all of w's memory, its spare room too, the deepest first.
func scribble(w *api.Wire) {
	for i := range w.L {
		scribble(&w.L[i])
	}
	for i := range w.L[:cap(w.L)] {
		w.L[:cap(w.L)][i] = api.Wire{Kind: 77}
	}
	*w = api.Wire{Kind: 78}
}

// R3, R5: what Get tells is new each time, and no two lists of it are one memory.
func TestGetIsNew(t *testing.T) {
	for _, w := range good() {
		s := wire.Put(w)
		first, _ := wire.Get(s)
		second, _ := wire.Get(s)
		scribble(&first)
		third, _ := wire.Get(s)
		if !wire.Same(second, w) || !wire.Same(third, w) || wire.Put(w) != s {
			t.Errorf("R3: Get of %.80x: %s, %s", s, brief(second), brief(third))
		}
		for i := range third.L {
			scribble(&third.L[i])
			if slices.ContainsFunc(third.L[i+1:], func(item api.Wire) bool { return item.Kind >= 77 }) || !slices.EqualFunc(third.L[i+1:], w.L[i+1:], wire.Same) {
				t.Errorf("R3: two lists of what %.80x says are one memory", s)
			}
		}
	}
}

// R3: May, Put and Same leave what is handed in as it was, with what lies behind it.
func TestLeavesWhatIsHandedIn(t *testing.T) {
	for _, w := range slices.Concat(good(), bad()) {
		back := []api.Wire{wire.Num(1), w, wire.Num(2)}
		in := api.Wire{Kind: api.WList, L: back[:2]}
		kept := wire.List(back...)
		wire.May(in)
		wire.Put(in)
		wire.Same(in, kept)
		if !slices.EqualFunc(back, kept.L, wire.Same) {
			t.Errorf("R3: what was handed in is %s", brief(in))
		}
	}
}

func BenchmarkPut(b *testing.B) {
	for _, w := range []api.Wire{wire.Num(1), wire.Text(strings.Repeat("x", 1<<14)), around(many(400), 3)} {
		s := wire.Put(w)
		b.Run(strconv.Itoa(len(s)), func(b *testing.B) {
			b.SetBytes(int64(len(s)))
			for b.Loop() {
				wire.Put(w)
			}
		})
	}
}

func BenchmarkGet(b *testing.B) {
	for _, w := range []api.Wire{wire.Num(1), wire.Text(strings.Repeat("x", 1<<14)), around(many(400), 3)} {
		s := wire.Put(w)
		b.Run(strconv.Itoa(len(s)), func(b *testing.B) {
			b.SetBytes(int64(len(s)))
			for b.Loop() {
				wire.Get(s)
			}
		})
	}
}
