package mutate_test

import (
	"fmt"
	"math"
	"math/rand"
	"slices"
	"strings"
	"testing"
	"unsafe"

	"deaddrop/api"
	"deaddrop/dots"
	"deaddrop/facts"
	"deaddrop/join"
	"deaddrop/mutate"
	"deaddrop/read"
)

const (
	devs     = 8
	maxKey   = 40
	maxItem  = 200
	maxUnit  = 1 << 40
	maxDot   = 1 << 52
	maxFacts = 400
)

// runs are Dev, From, To; Dev, From, To; and so on.
func runs(n ...int) []api.Run {
	var l []api.Run
	for i := 0; i+2 < len(n); i += 3 {
		l = append(l, api.Run{Dev: n[i], From: n[i+1], To: n[i+2]})
	}
	return l
}

func dot(dev, n int) api.Dot {
	return api.Dot{Dev: dev, N: n}
}

func reg(dev, n int, key, text string) api.Fact {
	return api.Fact{Dot: dot(dev, n), Key: key, Kind: api.FReg, Item: text}
}

func set(dev, n int, key, member string) api.Fact {
	return api.Fact{Dot: dot(dev, n), Key: key, Kind: api.FSet, Item: member}
}

func count(dev, n int, key string, counted int) api.Fact {
	return api.Fact{Dot: dot(dev, n), Key: key, Kind: api.FCnt, N: counted}
}

func state(seen []api.Run, l ...api.Fact) api.State {
	return api.State{Seen: seen, Facts: l}
}

func doSet(key, text string) api.Op   { return api.Op{Kind: api.OSet, Key: key, Item: text} }
func doAdd(key, member string) api.Op { return api.Op{Kind: api.OAdd, Key: key, Item: member} }
func doRem(key, member string) api.Op { return api.Op{Kind: api.ORem, Key: key, Item: member} }
func doInc(key string, n int) api.Op  { return api.Op{Kind: api.OInc, Key: key, N: n} }
func doDel(key string) api.Op         { return api.Op{Kind: api.ODel, Key: key} }

// ops are one of each kind, of this key.
func ops(key, item string, n int) []api.Op {
	return []api.Op{doSet(key, item), doAdd(key, item), doRem(key, item), doInc(key, n), doDel(key)}
}

// slowRuns are the runs of these dots, no two of which are one.
func slowRuns(l []api.Dot) []api.Run {
	l = slices.Clone(l)
	slices.SortFunc(l, func(a, b api.Dot) int {
		if a.Dev != b.Dev {
			return a.Dev - b.Dev
		}
		return a.N - b.N
	})
	var out []api.Run
	for _, d := range l {
		if last := len(out) - 1; last >= 0 && out[last].Dev == d.Dev && out[last].To == d.N-1 {
			out[last].To = d.N
			continue
		}
		out = append(out, api.Run{Dev: d.Dev, From: d.N, To: d.N})
	}
	return out
}

// slowArg tells whether dev and op may be, as the words of 11.1 say it.
func slowArg(dev int, op api.Op) bool {
	switch op.Kind {
	case 1, 2, 3:
		if len(op.Item) > maxItem {
			return false
		}
	case 4:
		if op.N < -maxUnit || op.N > maxUnit {
			return false
		}
	case 5:
	default:
		return false
	}
	return dev >= 0 && dev <= devs-1 && len(op.Key) <= maxKey
}

// slowGoes tells whether f goes by dev's op, as the words of 11.1 say it.
func slowGoes(f api.Fact, dev int, op api.Op) bool {
	return f.Key == op.Key && (op.Kind == 1 && f.Kind == 1 ||
		(op.Kind == 2 || op.Kind == 3) && f.Kind == 2 && f.Item == op.Item ||
		op.Kind == 4 && f.Kind == 3 && f.Dot.Dev == dev ||
		op.Kind == 5)
}

// slow is what Do is to tell, as the words of 11.1 say it, and what is left of s
// then.
func slow(s api.State, dev int, op api.Op) (delta api.State, left []api.Fact, e api.Errno) {
	if !slowArg(dev, op) {
		return api.State{}, s.Facts, 1
	}
	next, sum := 1, op.N
	for _, r := range s.Seen {
		if r.Dev == dev && r.To >= next {
			next = r.To + 1
		}
	}
	var seen []api.Dot
	for _, f := range s.Facts {
		if !slowGoes(f, dev, op) {
			left = append(left, f)
			continue
		}
		seen = append(seen, f.Dot)
		sum += f.N
	}
	if op.Kind == 3 || op.Kind == 5 {
		if len(seen) == 0 {
			return api.State{}, s.Facts, 2
		}
		return api.State{Seen: slowRuns(seen)}, left, 0
	}
	f := reg(dev, next, op.Key, op.Item)
	switch op.Kind {
	case 2:
		f.Kind = 2
	case 4:
		f.Kind, f.Item, f.N = 3, "", sum
	}
	if next > maxDot || f.N > maxUnit || f.N < -maxUnit || len(left)+1 > maxFacts {
		return api.State{}, s.Facts, 4
	}
	at := 0
	for at < len(left) && (left[at].Dot.Dev < dev || left[at].Dot.Dev == dev && left[at].Dot.N < next) {
		at++
	}
	return api.State{Seen: slowRuns(append(seen, f.Dot)), Facts: []api.Fact{f}}, slices.Insert(left, at, f), 0
}

// short is a text with what is too long in it cut.
func short(what string) string {
	if len(what) > 1500 {
		return what[:1500] + ".."
	}
	return what
}

// does tells the test whether Do tells this.
func does(t *testing.T, s api.State, dev int, op api.Op, want api.State, number api.Errno) {
	t.Helper()
	if !facts.May(s) {
		t.Fatalf("8.1: May(%s) is false", short(fmt.Sprint(s)))
	}
	got, e := mutate.Do(s, dev, op)
	if e != number || !facts.Same(got, want) {
		t.Errorf("11.1: Do(%s, %d, %s) is %s, %d, not %s, %d", short(fmt.Sprint(s)), dev, short(fmt.Sprint(op)), short(fmt.Sprint(got)), e, short(fmt.Sprint(want)), number)
	}
}

// refuses tells the test whether Do tells this number, and nothing beside it.
func refuses(t *testing.T, s api.State, dev int, op api.Op, number api.Errno) {
	t.Helper()
	does(t, s, dev, op, api.State{}, number)
	// R4: a list that is nothing, not one that has nothing.
	if got, _ := mutate.Do(s, dev, op); got.Seen != nil || got.Facts != nil {
		t.Errorf("R4: beside the error %d: %#v", number, got)
	}
}

// heldAgainst tells the test whether Do tells what the slow way does, whether
// what it tells may be, and whether its join is what comes of it, once and
// twice.
func heldAgainst(t *testing.T, s api.State, dev int, op api.Op) {
	t.Helper()
	delta, left, number := slow(s, dev, op)
	does(t, s, dev, op, delta, number)
	got, _ := mutate.Do(s, dev, op)
	if !facts.May(got) {
		t.Errorf("8.1: the delta %v may not be", got)
	}
	once := join.Join(s, got)
	if !slices.Equal(once.Facts, left) || !facts.May(once) {
		t.Errorf("11.1: of %v and %v comes %v, not %v", s, got, once.Facts, left)
	}
	if !slices.Equal(once.Seen, dots.Union(s.Seen, delta.Seen)) {
		t.Errorf("11.1: of %v and %v %v was seen", s, got, once.Seen)
	}
	if twice := join.Join(once, got); !facts.Same(twice, once) || !join.Le(got, once) {
		t.Errorf("11.2: %v comes twice to %v: %v, not %v", got, s, twice, once)
	}
}

// 11.1: on a state with nothing, each kind of op: a fact by the device's first
// dot, or none to go.
func TestEmpty(t *testing.T) {
	for _, s := range []api.State{{}, {Seen: []api.Run{}, Facts: []api.Fact{}}} {
		for dev := range devs {
			first := runs(dev, 1, 1)
			does(t, s, dev, doSet("k", "x"), state(first, reg(dev, 1, "k", "x")), api.OK)
			does(t, s, dev, doAdd("k", "x"), state(first, set(dev, 1, "k", "x")), api.OK)
			does(t, s, dev, doInc("k", 5), state(first, count(dev, 1, "k", 5)), api.OK)
			refuses(t, s, dev, doRem("k", "x"), api.ErrNone)
			refuses(t, s, dev, doDel("k"), api.ErrNone)
			does(t, s, dev, doSet("", ""), state(first, reg(dev, 1, "", "")), api.OK)
			does(t, s, dev, doAdd("", ""), state(first, set(dev, 1, "", "")), api.OK)
			does(t, s, dev, doInc("", 0), state(first, count(dev, 1, "", 0)), api.OK)
			refuses(t, s, dev, doRem("", ""), api.ErrNone)
			refuses(t, s, dev, doDel(""), api.ErrNone)
		}
	}
}

// 11.1: a state that has seen something, and has no facts: the new dot is behind
// the greatest of the device, whatever is ahead of it, and whatever others did.
func TestNewDot(t *testing.T) {
	for _, c := range []struct {
		seen []int
		dev  int
		want int
	}{
		{[]int{0, 1, 1}, 0, 2}, {[]int{0, 1, 9}, 0, 10}, {[]int{0, 5, 5}, 0, 6}, {[]int{0, 2, 3, 0, 7, 9}, 0, 10}, {[]int{0, 1, 1, 0, 1 << 40, 1 << 40}, 0, 1<<40 + 1},
		{[]int{0, 1, 9}, 1, 1}, {[]int{1, 1, 9}, 0, 1}, {[]int{0, 1, 9, 2, 1, 9}, 1, 1}, {[]int{0, 1, 9, 1, 3, 3, 2, 1, 9}, 1, 4},
		{[]int{0, 1, 9, 7, 1, 2, 7, 4, 4}, 7, 5}, {[]int{0, 1, maxDot, 2, 1, maxDot}, 1, 1}, {[]int{6, 1, maxDot}, 7, 1},
		{[]int{3, maxDot - 1, maxDot - 1}, 3, maxDot}, {[]int{3, 1, maxDot - 1, 4, maxDot, maxDot}, 3, maxDot},
	} {
		s, new := state(runs(c.seen...)), runs(c.dev, c.want, c.want)
		does(t, s, c.dev, doSet("k", "x"), state(new, reg(c.dev, c.want, "k", "x")), api.OK)
		does(t, s, c.dev, doAdd("k", "x"), state(new, set(c.dev, c.want, "k", "x")), api.OK)
		does(t, s, c.dev, doInc("k", -5), state(new, count(c.dev, c.want, "k", -5)), api.OK)
		refuses(t, s, c.dev, doRem("k", "x"), api.ErrNone)
		refuses(t, s, c.dev, doDel("k"), api.ErrNone)
	}
}

// 11.1: on a state of one fact: of each kind, by the same device and by another,
// of the same key and another, of the same item and another.
func TestOne(t *testing.T) {
	for _, own := range []bool{true, false} {
		by, next := 3, 6
		if !own {
			by, next = 5, 1
		}
		// What is seen of a new dot alone, and of what goes besides.
		alone, both := runs(by, next, next), runs(3, 5, 6)
		if !own {
			both = runs(3, 5, 5, 5, 1, 1)
		}
		gone := state(runs(3, 5, 5))

		s := state(runs(3, 5, 5), reg(3, 5, "k", "x"))
		does(t, s, by, doSet("k", "x"), state(both, reg(by, next, "k", "x")), api.OK)
		does(t, s, by, doSet("k", "y"), state(both, reg(by, next, "k", "y")), api.OK)
		does(t, s, by, doSet("l", "x"), state(alone, reg(by, next, "l", "x")), api.OK)
		does(t, s, by, doAdd("k", "x"), state(alone, set(by, next, "k", "x")), api.OK)
		does(t, s, by, doInc("k", 5), state(alone, count(by, next, "k", 5)), api.OK)
		refuses(t, s, by, doRem("k", "x"), api.ErrNone)
		does(t, s, by, doDel("k"), gone, api.OK)
		refuses(t, s, by, doDel("l"), api.ErrNone)

		s = state(runs(3, 5, 5), set(3, 5, "k", "x"))
		does(t, s, by, doSet("k", "x"), state(alone, reg(by, next, "k", "x")), api.OK)
		does(t, s, by, doAdd("k", "x"), state(both, set(by, next, "k", "x")), api.OK)
		does(t, s, by, doAdd("k", "y"), state(alone, set(by, next, "k", "y")), api.OK)
		does(t, s, by, doAdd("l", "x"), state(alone, set(by, next, "l", "x")), api.OK)
		does(t, s, by, doInc("k", 5), state(alone, count(by, next, "k", 5)), api.OK)
		does(t, s, by, doRem("k", "x"), gone, api.OK)
		refuses(t, s, by, doRem("k", "y"), api.ErrNone)
		refuses(t, s, by, doRem("l", "x"), api.ErrNone)
		refuses(t, s, by, doRem("x", "k"), api.ErrNone)
		does(t, s, by, doDel("k"), gone, api.OK)
		refuses(t, s, by, doDel("x"), api.ErrNone)

		s = state(runs(3, 5, 5), count(3, 5, "k", 7))
		does(t, s, by, doSet("k", "7"), state(alone, reg(by, next, "k", "7")), api.OK)
		does(t, s, by, doAdd("k", "7"), state(alone, set(by, next, "k", "7")), api.OK)
		does(t, s, by, doInc("l", 5), state(alone, count(by, next, "l", 5)), api.OK)
		refuses(t, s, by, doRem("k", ""), api.ErrNone)
		does(t, s, by, doDel("k"), gone, api.OK)
		if own {
			does(t, s, by, doInc("k", 5), state(both, count(by, next, "k", 12)), api.OK)
			does(t, s, by, doInc("k", -7), state(both, count(by, next, "k", 0)), api.OK)
		} else {
			does(t, s, by, doInc("k", 5), state(alone, count(by, next, "k", 5)), api.OK)
		}
	}
}

// several is a state of several keys, kinds and devices; some of its dots are
// not facts any more.
func several() api.State {
	return state(runs(0, 1, 9, 2, 1, 3, 2, 5, 6, 5, 2, 2, 7, 1, 8),
		reg(0, 1, "a", "x"), set(0, 2, "a", "m"), count(0, 3, "a", 5), set(0, 4, "b", "m"), reg(0, 6, "a", "y"), count(0, 7, "a", -2), reg(0, 8, "b", "x"), set(0, 9, "a", "m"),
		reg(2, 1, "a", "x"), set(2, 2, "a", "n"), count(2, 3, "a", 100), set(2, 5, "a", "m"), count(2, 6, "b", 9),
		reg(5, 2, "", "m"),
		set(7, 1, "a", "x"), reg(7, 2, "c", "a"), count(7, 4, "a", 7), set(7, 7, "", ""), reg(7, 8, "a", "z"))
}

// 11.1: on a state of several keys, kinds and devices: which fact is new, which
// go, what is seen.
func TestSeveral(t *testing.T) {
	for _, c := range []struct {
		dev  int
		op   api.Op
		want api.State
	}{
		// All registers of the key, whoever set them and to what; no other fact.
		{0, doSet("a", "x"), state(runs(0, 1, 1, 0, 6, 6, 0, 10, 10, 2, 1, 1, 7, 8, 8), reg(0, 10, "a", "x"))},
		{1, doSet("a", "w"), state(runs(0, 1, 1, 0, 6, 6, 1, 1, 1, 2, 1, 1, 7, 8, 8), reg(1, 1, "a", "w"))},
		{7, doSet("a", ""), state(runs(0, 1, 1, 0, 6, 6, 2, 1, 1, 7, 8, 9), reg(7, 9, "a", ""))},
		{0, doSet("b", "z"), state(runs(0, 8, 8, 0, 10, 10), reg(0, 10, "b", "z"))},
		{5, doSet("", "m"), state(runs(5, 2, 3), reg(5, 3, "", "m"))},
		{5, doSet("d", "m"), state(runs(5, 3, 3), reg(5, 3, "d", "m"))},
		{3, doSet("m", "a"), state(runs(3, 1, 1), reg(3, 1, "m", "a"))},
		// All facts of the member in the key's set; a register's text is none.
		{0, doAdd("a", "m"), state(runs(0, 2, 2, 0, 9, 10, 2, 5, 5), set(0, 10, "a", "m"))},
		{2, doAdd("a", "m"), state(runs(0, 2, 2, 0, 9, 9, 2, 5, 5, 2, 7, 7), set(2, 7, "a", "m"))},
		{6, doAdd("a", "n"), state(runs(2, 2, 2, 6, 1, 1), set(6, 1, "a", "n"))},
		{5, doAdd("a", "x"), state(runs(5, 3, 3, 7, 1, 1), set(5, 3, "a", "x"))},
		{5, doAdd("a", "y"), state(runs(5, 3, 3), set(5, 3, "a", "y"))},
		{1, doAdd("b", "m"), state(runs(0, 4, 4, 1, 1, 1), set(1, 1, "b", "m"))},
		{1, doAdd("b", "n"), state(runs(1, 1, 1), set(1, 1, "b", "n"))},
		{7, doAdd("", ""), state(runs(7, 7, 7, 7, 9, 9), set(7, 9, "", ""))},
		{7, doAdd("c", "a"), state(runs(7, 9, 9), set(7, 9, "c", "a"))},
		{0, doRem("a", "m"), state(runs(0, 2, 2, 0, 9, 9, 2, 5, 5))},
		{4, doRem("a", "m"), state(runs(0, 2, 2, 0, 9, 9, 2, 5, 5))},
		{0, doRem("a", "n"), state(runs(2, 2, 2))},
		{0, doRem("a", "x"), state(runs(7, 1, 1))},
		{2, doRem("b", "m"), state(runs(0, 4, 4))},
		{2, doRem("", ""), state(runs(7, 7, 7))},
		// What the device itself has counted for the key, and no other has.
		{0, doInc("a", 10), state(runs(0, 3, 3, 0, 7, 7, 0, 10, 10), count(0, 10, "a", 13))},
		{0, doInc("a", -3), state(runs(0, 3, 3, 0, 7, 7, 0, 10, 10), count(0, 10, "a", 0))},
		{2, doInc("a", 10), state(runs(2, 3, 3, 2, 7, 7), count(2, 7, "a", 110))},
		{2, doInc("b", 0), state(runs(2, 6, 7), count(2, 7, "b", 9))},
		{7, doInc("a", -8), state(runs(7, 4, 4, 7, 9, 9), count(7, 9, "a", -1))},
		{5, doInc("a", 10), state(runs(5, 3, 3), count(5, 3, "a", 10))},
		{0, doInc("b", 10), state(runs(0, 10, 10), count(0, 10, "b", 10))},
		{2, doInc("", 10), state(runs(2, 7, 7), count(2, 7, "", 10))},
		// All facts of the key, of each kind, by each device.
		{0, doDel("a"), state(runs(0, 1, 3, 0, 6, 7, 0, 9, 9, 2, 1, 3, 2, 5, 5, 7, 1, 1, 7, 4, 4, 7, 8, 8))},
		{6, doDel("a"), state(runs(0, 1, 3, 0, 6, 7, 0, 9, 9, 2, 1, 3, 2, 5, 5, 7, 1, 1, 7, 4, 4, 7, 8, 8))},
		{6, doDel("b"), state(runs(0, 4, 4, 0, 8, 8, 2, 6, 6))},
		{6, doDel(""), state(runs(5, 2, 2, 7, 7, 7))},
		{0, doDel("c"), state(runs(7, 2, 2))},
	} {
		does(t, several(), c.dev, c.op, c.want, api.OK)
		heldAgainst(t, several(), c.dev, c.op)
	}
}

// 11.1: ORem and ODel of what is not there.
func TestNoneThere(t *testing.T) {
	for dev := range devs {
		for _, op := range []api.Op{
			// No member; a register's text; another key's member; a key; a number.
			doRem("a", "o"), doRem("a", "y"), doRem("a", "z"), doRem("b", "n"), doRem("b", "x"), doRem("c", "a"), doRem("", "m"), doRem("a", ""), doRem("a", "a"), doRem("a", "5"),
			// No key, or almost one.
			doRem("d", "m"), doRem("aa", "m"), doRem("A", "m"), doRem("a", "M"), doRem("a", "m\x00"), doRem("a\x00", "m"), doRem("m", "a"),
			doDel("d"), doDel("m"), doDel("x"), doDel("aa"), doDel("A"), doDel("a\x00"), doDel("a "), doDel("\x00"), doDel("5"),
		} {
			refuses(t, several(), dev, op, api.ErrNone)
		}
		// Seen, and gone.
		s := state(runs(dev, 1, 9))
		refuses(t, s, dev, doRem("a", "m"), api.ErrNone)
		refuses(t, s, dev, doDel("a"), api.ErrNone)
	}
}

// R6: keys and members are held against one another byte by byte.
func TestBytes(t *testing.T) {
	l := []string{"", "\x00", "\x00\x00", "a", "a\x00", "A", "aa", "ab", "\u00e9", "e\u0301", "\x80", "\xff", "\xff\xfe", "\ufffd", "\xed\xa0\x80", strings.Repeat("a", maxKey), strings.Repeat("a", maxKey-1)}
	var members, keys []api.Fact
	for i, text := range l {
		members = append(members, set(1, i+1, "k", text))
		keys = append(keys, api.Fact{Dot: dot(1, i+1), Key: text, Kind: i%3 + 1})
	}
	seen := runs(1, 1, len(l))
	for i, text := range l {
		does(t, state(seen, members...), 0, doRem("k", text), state(runs(1, i+1, i+1)), api.OK)
		does(t, state(seen, members...), 0, doAdd("k", text), state(runs(0, 1, 1, 1, i+1, i+1), set(0, 1, "k", text)), api.OK)
		does(t, state(seen, keys...), 0, doDel(text), state(runs(1, i+1, i+1)), api.OK)
		refuses(t, state(slices.Clone(seen), slices.Delete(slices.Clone(members), i, i+1)...), 0, doRem("k", text), api.ErrNone)
		refuses(t, state(slices.Clone(seen), slices.Delete(slices.Clone(keys), i, i+1)...), 0, doDel(text), api.ErrNone)
	}
}

// 11.1: an op's item, or number, that its kind asks nothing of is not looked at,
// and is not in the new fact.
func TestUnasked(t *testing.T) {
	for _, n := range []int{0, 1, -1, maxUnit, maxUnit + 1, -maxUnit - 1, math.MaxInt, math.MinInt} {
		for _, op := range []api.Op{doSet("a", "x"), doAdd("a", "m"), doRem("a", "m"), doDel("a"), doDel("b")} {
			with := op
			with.N = n
			want, e := mutate.Do(several(), 2, op)
			does(t, several(), 2, with, want, e)
			heldAgainst(t, several(), 2, with)
		}
	}
	for _, item := range []string{"", "m", "x", strings.Repeat("i", maxItem), strings.Repeat("i", maxItem+1), strings.Repeat("i", 1<<16)} {
		for _, op := range []api.Op{doInc("a", 5), doInc("z", 5), doDel("a"), doDel("b")} {
			with := op
			with.Item = item
			want, e := mutate.Do(several(), 2, op)
			does(t, several(), 2, with, want, e)
			heldAgainst(t, several(), 2, with)
		}
	}
}

// 11.1, ErrArg: each part at its edge and one beyond; on a state where the op
// would do something, and where it would not.
func TestArg(t *testing.T) {
	key, item := strings.Repeat("k", maxKey), strings.Repeat("i", maxItem)
	has := state(runs(0, 1, 3), reg(0, 1, key, item), set(0, 2, key, item), count(0, 3, key, 1))
	for _, op := range ops(key, item, 1) {
		for _, dev := range []int{0, 7} {
			if _, e := mutate.Do(has, dev, op); e != api.OK {
				t.Errorf("11.1: kind %d, device %d: %d", op.Kind, dev, e)
			}
			heldAgainst(t, has, dev, op)
		}
		for _, s := range []api.State{{}, has} {
			for _, dev := range []int{-1, devs, devs + 1, -devs, 1 << 32, math.MinInt, math.MaxInt} {
				refuses(t, s, dev, op, api.ErrArg)
			}
			for _, kind := range []int{0, 6, -1, -5, 7, 1 + 1<<32, math.MinInt, math.MaxInt} {
				other := op
				other.Kind = kind
				refuses(t, s, 0, other, api.ErrArg)
			}
			for _, more := range []string{key + "k", key + "\x00", strings.Repeat("k", 1<<16)} {
				other := op
				other.Key = more
				refuses(t, s, 0, other, api.ErrArg)
			}
			for _, more := range []string{item + "i", item + "\x00", strings.Repeat("i", 1<<16)} {
				other := op
				other.Item = more
				if op.Kind <= api.ORem {
					refuses(t, s, 0, other, api.ErrArg)
				} else {
					heldAgainst(t, s, 0, other)
				}
			}
			for _, n := range []int{maxUnit + 1, -maxUnit - 1, 1 << 41, math.MinInt, math.MaxInt} {
				other := op
				other.N = n
				if op.Kind == api.OInc {
					refuses(t, s, 0, other, api.ErrArg)
				} else {
					heldAgainst(t, s, 0, other)
				}
			}
		}
	}
	// How long a text is is told by its bytes, not its runes.
	for _, op := range ops(strings.Repeat("\u00e9", maxKey/2), strings.Repeat("\u00e9", maxItem/2), 1) {
		heldAgainst(t, has, 0, op)
		op.Key += "k"
		refuses(t, has, 0, op, api.ErrArg)
	}
	refuses(t, has, 0, doSet("k", strings.Repeat("\u00e9", maxItem/2+1)), api.ErrArg)
}

// 11.1: N of OInc, at its edges.
func TestUnit(t *testing.T) {
	for _, n := range []int{-maxUnit, 1 - maxUnit, -1, 0, 1, maxUnit - 1, maxUnit} {
		does(t, api.State{}, 2, doInc("k", n), state(runs(2, 1, 1), count(2, 1, "k", n)), api.OK)
	}
	for _, n := range []int{-maxUnit - 1, maxUnit + 1} {
		// Though with what was counted it would not be too much.
		s := state(runs(2, 1, 1), count(2, 1, "k", -n/2))
		refuses(t, api.State{}, 2, doInc("k", n), api.ErrArg)
		refuses(t, s, 2, doInc("k", n), api.ErrArg)
	}
}

// 11.1, ErrLarge: the sum of a device's counts at its edges, and one beyond.
func TestSum(t *testing.T) {
	for _, c := range []struct {
		had  []int
		n    int
		want api.Errno
	}{
		{[]int{maxUnit}, 0, 0}, {[]int{maxUnit}, 1, 4}, {[]int{maxUnit}, -1, 0}, {[]int{maxUnit}, maxUnit, 4}, {[]int{maxUnit}, -maxUnit, 0},
		{[]int{-maxUnit}, 0, 0}, {[]int{-maxUnit}, -1, 4}, {[]int{-maxUnit}, 1, 0}, {[]int{-maxUnit}, -maxUnit, 4}, {[]int{-maxUnit}, maxUnit, 0},
		{[]int{1}, maxUnit, 4}, {[]int{1}, maxUnit - 1, 0}, {[]int{-1}, -maxUnit, 4}, {[]int{-1}, 1 - maxUnit, 0}, {[]int{0}, maxUnit, 0},
		{[]int{maxUnit - 5}, 5, 0}, {[]int{maxUnit - 5}, 6, 4}, {[]int{5 - maxUnit}, -5, 0}, {[]int{5 - maxUnit}, -6, 4},
		// Of more than one: they may be too much together, but not with n.
		{[]int{maxUnit, maxUnit}, -maxUnit, 0}, {[]int{maxUnit, maxUnit}, 1 - maxUnit, 4}, {[]int{maxUnit, maxUnit}, 0, 4}, {[]int{maxUnit, -maxUnit}, maxUnit, 0},
		{[]int{-maxUnit, -maxUnit}, maxUnit, 0}, {[]int{-maxUnit, -maxUnit}, maxUnit - 1, 4}, {[]int{3, 4, 5}, maxUnit - 12, 0}, {[]int{3, 4, 5}, maxUnit - 11, 4},
	} {
		var own, others []api.Fact
		for i, n := range c.had {
			own = append(own, count(3, i+1, "k", n))
			others = append(others, count(2, i+1, "k", n))
		}
		last := len(c.had)
		s := state(runs(3, 1, last), own...)
		if c.want == 4 {
			refuses(t, s, 3, doInc("k", c.n), api.ErrLarge)
		} else {
			sum := c.n
			for _, n := range c.had {
				sum += n
			}
			does(t, s, 3, doInc("k", c.n), state(runs(3, 1, last+1), count(3, last+1, "k", sum)), api.OK)
		}
		heldAgainst(t, s, 3, doInc("k", c.n))
		// Of another key, and by another device, it is not too much.
		does(t, s, 3, doInc("l", c.n), state(runs(3, last+1, last+1), count(3, last+1, "l", c.n)), api.OK)
		does(t, state(runs(2, 1, last), others...), 3, doInc("k", c.n), state(runs(3, 1, 1), count(3, 1, "k", c.n)), api.OK)
	}
}

// 11.1: as many counts of one device as there may be.
func TestSumMany(t *testing.T) {
	for _, n := range []int{1, -1, maxUnit, -maxUnit, maxUnit / maxFacts} {
		var l []api.Fact
		for i := range maxFacts {
			l = append(l, count(3, i+1, "k", n))
		}
		s := state(runs(3, 1, maxFacts), l...)
		for _, by := range []int{0, 1, -1, maxUnit, -maxUnit, -n} {
			heldAgainst(t, s, 3, doInc("k", by))
			refuses(t, s, 2, doInc("k", by), api.ErrLarge)
		}
	}
}

// 11.1, ErrLarge: the new dot at MaxDot, and above; where there is no new dot,
// and of another device, that is nothing.
func TestMaxDot(t *testing.T) {
	key, item := "k", "x"
	for dev := range devs {
		for _, last := range []int{maxDot - 2, maxDot - 1, maxDot} {
			for _, from := range []int{1, last} {
				s := state(runs(dev, from, last), set(dev, last, key, item))
				for _, op := range ops(key, item, 1) {
					heldAgainst(t, s, dev, op)
					heldAgainst(t, s, (dev+1)%devs, op)
					if op.Kind == api.ORem || op.Kind == api.ODel {
						does(t, s, dev, op, state(runs(dev, last, last)), api.OK)
					} else if last == maxDot {
						refuses(t, s, dev, op, api.ErrLarge)
					} else if got, e := mutate.Do(s, dev, op); e != api.OK || got.Facts[0].Dot != dot(dev, last+1) {
						t.Errorf("11.1: behind %d: %v, %d", last, got, e)
					}
				}
			}
		}
	}
}

// full is a state of n facts of dev: its first are a register, a member, a
// count; behind these are members of another key.
func full(dev, n int) api.State {
	l := []api.Fact{reg(dev, 1, "k", "x"), set(dev, 2, "k", "m"), count(dev, 3, "k", 1)}
	for i := len(l); i < n; i++ {
		l = append(l, set(dev, i+1, "l", fmt.Sprint(i)))
	}
	return state(runs(dev, 1, n), l...)
}

// 11.1, ErrLarge: a join of MaxFacts facts, and one more.
func TestMaxFacts(t *testing.T) {
	for _, c := range []struct {
		dev    int
		op     api.Op
		before int
		want   api.Errno
	}{
		// A fact more, and none the less.
		{1, doSet("z", "x"), maxFacts - 1, 0}, {1, doSet("z", "x"), maxFacts, 4}, {3, doSet("z", "x"), maxFacts, 4}, {3, doSet("l", "x"), maxFacts, 4},
		{1, doAdd("z", "x"), maxFacts - 1, 0}, {1, doAdd("z", "x"), maxFacts, 4}, {3, doAdd("l", "x"), maxFacts, 4}, {3, doAdd("k", "x"), maxFacts, 4},
		{1, doInc("z", 1), maxFacts - 1, 0}, {1, doInc("z", 1), maxFacts, 4}, {1, doInc("k", 1), maxFacts - 1, 0}, {1, doInc("k", 1), maxFacts, 4}, {3, doInc("l", 1), maxFacts, 4},
		// A fact for another.
		{1, doSet("k", "y"), maxFacts, 0}, {3, doSet("k", "x"), maxFacts, 0},
		{1, doAdd("k", "m"), maxFacts, 0}, {3, doAdd("l", "7"), maxFacts, 0}, {3, doAdd("l", "399"), maxFacts, 0}, {3, doAdd("l", "400"), maxFacts, 4},
		{3, doInc("k", 1), maxFacts, 0}, {3, doInc("k", 0), maxFacts, 0},
		// A fact the less.
		{1, doRem("k", "m"), maxFacts, 0}, {3, doRem("l", "7"), maxFacts, 0}, {3, doDel("k"), maxFacts, 0}, {1, doDel("l"), maxFacts, 0},
		{1, doRem("k", "x"), maxFacts, 2}, {1, doDel("z"), maxFacts, 2},
	} {
		s := full(3, c.before)
		if c.want != 0 {
			refuses(t, s, c.dev, c.op, c.want)
		}
		heldAgainst(t, s, c.dev, c.op)
		if _, e := mutate.Do(s, c.dev, c.op); e != c.want {
			t.Errorf("11.1: %v by %d on %d facts: %d, not %d", c.op, c.dev, c.before, e, c.want)
		}
		// Where more than one goes there is room again.
		if c.want == 4 && c.op.Kind != api.OInc {
			s.Facts[5] = api.Fact{Dot: s.Facts[5].Dot, Key: c.op.Key, Kind: c.op.Kind, Item: c.op.Item}
			heldAgainst(t, s, c.dev, c.op)
			s.Facts[9] = api.Fact{Dot: s.Facts[9].Dot, Key: c.op.Key, Kind: c.op.Kind, Item: c.op.Item}
			heldAgainst(t, s, c.dev, c.op)
			if got, e := mutate.Do(s, c.dev, c.op); e != api.OK || len(join.Join(s, got).Facts) != maxFacts-1 {
				t.Errorf("11.1: %v by %d where two go: %d", c.op, c.dev, e)
			}
		}
	}
}

// R2: which error counts where several do: ErrArg, then ErrNone, then ErrLarge.
func TestFirst(t *testing.T) {
	key, item := strings.Repeat("k", maxKey+1), strings.Repeat("i", maxItem+1)
	s := full(3, maxFacts)
	s.Seen[0].To = maxDot
	s.Facts[2].N = maxUnit
	// Nothing there, and what may not be.
	refuses(t, api.State{}, 0, doRem(key, "m"), api.ErrArg)
	refuses(t, api.State{}, 0, doRem("k", item), api.ErrArg)
	refuses(t, api.State{}, 0, doDel(key), api.ErrArg)
	refuses(t, api.State{}, -1, doRem("k", "m"), api.ErrArg)
	refuses(t, api.State{}, devs, doDel("k"), api.ErrArg)
	refuses(t, api.State{}, 0, api.Op{Kind: 6, Key: "k"}, api.ErrArg)
	// Too much of all, and what may not be.
	for _, op := range ops(key, "m", 1) {
		refuses(t, s, 3, op, api.ErrArg)
	}
	for _, op := range ops("k", item, maxUnit+1)[:4] {
		refuses(t, s, 3, op, api.ErrArg)
	}
	for _, dev := range []int{-1, devs} {
		for _, op := range ops("z", "m", maxUnit) {
			refuses(t, s, dev, op, api.ErrArg)
		}
	}
	refuses(t, s, 3, api.Op{Kind: 0, Key: "z"}, api.ErrArg)
	refuses(t, s, 3, api.Op{Kind: 6, Key: "z"}, api.ErrArg)
	refuses(t, s, 3, doInc("k", -maxUnit-1), api.ErrArg)
	// Too much of all, and nothing there.
	refuses(t, s, 3, doRem("k", "z"), api.ErrNone)
	refuses(t, s, 3, doDel("z"), api.ErrNone)
	refuses(t, s, 1, doRem("z", "m"), api.ErrNone)
	// Too much of all; of dots alone, of facts alone, of counts alone.
	for _, op := range []api.Op{doSet("z", ""), doAdd("z", ""), doInc("z", 0), doInc("k", 1), doSet("k", ""), doAdd("k", "m")} {
		refuses(t, s, 3, op, api.ErrLarge)
	}
	for _, op := range []api.Op{doSet("z", ""), doAdd("z", ""), doInc("z", 0), doInc("k", 1)} {
		refuses(t, s, 1, op, api.ErrLarge)
	}
	s = full(3, maxFacts)
	s.Facts[2].N = maxUnit
	refuses(t, s, 3, doInc("k", 1), api.ErrLarge)
	// What may go goes, though there is too much of all.
	s.Seen[0].To = maxDot
	does(t, s, 3, doRem("k", "m"), state(runs(3, 2, 2)), api.OK)
	does(t, s, 3, doDel("k"), state(runs(3, 1, 3)), api.OK)
}

// What a state has of keys, by what layer 10 reads.
func shownKey(s api.State, key string) string {
	return fmt.Sprintf("%q %q %d", read.Texts(s, key), read.Members(s, key), read.Count(s, key))
}

// 11.1: what is read of the key behind a deed, and that all other keys are as
// they were.
func TestRead(t *testing.T) {
	for dev := range devs {
		for _, key := range []string{"a", "b", "c", "d", ""} {
			for _, op := range slices.Concat(ops(key, "m", 5), ops(key, "", -5), ops(key, "x", 0)) {
				s := several()
				delta, e := mutate.Do(s, dev, op)
				after := join.Join(s, delta)
				texts, members, counted := read.Texts(s, key), read.Members(s, key), read.Count(s, key)
				if e == api.OK {
					switch op.Kind {
					case api.OSet:
						texts = []string{op.Item}
					case api.OAdd:
						members = append(members, op.Item)
						slices.Sort(members)
						members = slices.Compact(members)
					case api.ORem:
						members = slices.DeleteFunc(members, func(m string) bool { return m == op.Item })
					case api.OInc:
						counted += op.N
					case api.ODel:
						texts, members, counted = nil, nil, 0
					}
				}
				if got, want := shownKey(after, key), fmt.Sprintf("%q %q %d", texts, members, counted); got != want {
					t.Errorf("11.1: behind %v by %d: %s, not %s", op, dev, got, want)
				}
				for _, other := range []string{"a", "b", "c", "d", "", "m"} {
					if got, want := shownKey(after, other), shownKey(s, other); other != key && got != want {
						t.Errorf("11.1: %q behind %v by %d: %s, not %s", other, op, dev, got, want)
					}
				}
			}
		}
	}
}

// few are ops of few keys and items, as devices that know of one another do them.
func few() []api.Op {
	return slices.Concat(ops("a", "m", 1), ops("a", "n", -3), ops("b", "m", 2), []api.Op{doSet("a", ""), doInc("b", 0)})
}

// 11.2: deltas that come again, and again, behind those that came later, change
// nothing more: what is gone stays so, and what is counted is so once.
func TestAgainComes(t *testing.T) {
	r := rand.New(rand.NewSource(11))
	l := few()
	for range 300 {
		var s api.State
		var came []api.State
		for range 20 {
			delta, e := mutate.Do(s, r.Intn(3), l[r.Intn(len(l))])
			if e != api.OK && e != api.ErrNone {
				t.Fatalf("11.1: %d", e)
			}
			s, came = join.Join(s, delta), append(came, delta)
			for i, d := range came {
				if again := join.Join(s, d); !facts.Same(again, s) {
					t.Fatalf("11.2: %v, the delta %d of %d, comes again to %v: %v", d, i, len(came), s, again)
				}
			}
			if again := join.All(append(slices.Clone(came), came...)...); !facts.Same(again, s) {
				t.Fatalf("11.2: all that came, twice, is %v, not %v", again, s)
			}
		}
	}
}

// 11.2: devices that each do what they like, alone, come to the same by all
// deltas, in whatever order and however often these come.
func TestAlone(t *testing.T) {
	r := rand.New(rand.NewSource(12))
	l := few()
	for range 200 {
		var own [3]api.State
		var all []api.State
		for range 15 {
			dev := r.Intn(len(own))
			delta, _ := mutate.Do(own[dev], dev, l[r.Intn(len(l))])
			own[dev] = join.Join(own[dev], delta)
			all = append(all, delta)
			if r.Intn(4) == 0 {
				own[dev] = join.Join(own[dev], all[r.Intn(len(all))])
			}
		}
		want := join.All(all...)
		if !facts.May(want) {
			t.Fatalf("8.1: May(%v) is false", want)
		}
		twice := slices.Concat(all, all)
		for dev, s := range own {
			r.Shuffle(len(twice), func(i, j int) { twice[i], twice[j] = twice[j], twice[i] })
			if got := join.Join(s, join.All(twice...)); !facts.Same(got, want) {
				t.Fatalf("11.2: %d comes to %v, not %v", dev, got, want)
			}
		}
	}
}

// 11.1: two that set, add, or count, alone: both stay, until one who knows of
// both sets, or adds; what one takes away that does not know of the other's
// stays by the other's.
func TestMeanwhile(t *testing.T) {
	do := func(s api.State, dev int, op api.Op) api.State {
		delta, e := mutate.Do(s, dev, op)
		if e != api.OK {
			t.Fatalf("11.1: %v: %d", op, e)
		}
		return join.Join(s, delta)
	}
	var start api.State
	for _, op := range []api.Op{doSet("k", "x"), doAdd("k", "m"), doInc("k", 10)} {
		start = do(start, 0, op)
	}
	for _, c := range []struct {
		a, b api.Op
		want string
	}{
		{doSet("k", "y"), doSet("k", "z"), `["y" "z"] ["m"] 10`},
		{doSet("k", "y"), doSet("k", "y"), `["y"] ["m"] 10`},
		{doSet("k", "y"), doDel("k"), `["y"] [] 0`},
		{doAdd("k", "m"), doRem("k", "m"), `["x"] ["m"] 10`},
		{doRem("k", "m"), doRem("k", "m"), `["x"] [] 10`},
		{doAdd("k", "m"), doAdd("k", "n"), `["x"] ["m" "n"] 10`},
		{doInc("k", 1), doInc("k", 2), `["x"] ["m"] 13`},
		{doInc("k", 1), doDel("k"), `[] [] 1`},
		{doDel("k"), doDel("k"), `[] [] 0`},
	} {
		for _, devs := range [][2]int{{1, 2}, {2, 1}} {
			a, b := do(start, devs[0], c.a), do(start, devs[1], c.b)
			both := join.Join(a, b)
			if got := shownKey(both, "k"); got != c.want {
				t.Errorf("11.1: %v and %v: %s, not %s", c.a, c.b, got, c.want)
			}
			last := do(do(both, 5, doSet("k", "last")), 5, doAdd("k", "m"))
			if got := fmt.Sprintf("%q", read.Texts(last, "k")); got != `["last"]` || len(facts.Find(last, "k", api.FReg)) != 1 {
				t.Errorf("11.1: %v and %v, then set: %s", c.a, c.b, got)
			}
		}
	}
	// The first device counts on where others have: it takes in its own alone.
	both := join.Join(do(start, 0, doInc("k", 1)), do(start, 1, doInc("k", 5)))
	if got := shownKey(do(both, 0, doInc("k", -2)), "k"); got != `["x"] ["m"] 14` {
		t.Errorf("11.1: counts: %s", got)
	}
}

// 11.1: all states of up to three facts of a few keys, kinds and devices, each op
// of each device on them, held against a slow way.
func TestAll(t *testing.T) {
	var kinds []api.Fact
	for _, key := range []string{"a", "b"} {
		kinds = append(kinds, reg(0, 0, key, "x"), set(0, 0, key, "x"), set(0, 0, key, "y"), count(0, 0, key, 3))
	}
	places := []api.Dot{dot(0, 1), dot(0, 2), dot(1, 2), dot(1, 4)}
	var states []api.State
	var grow func(s api.State, at int)
	grow = func(s api.State, at int) {
		states = append(states, s)
		if len(s.Facts) == 3 {
			return
		}
		for ; at < len(places); at++ {
			for _, f := range kinds {
				f.Dot = places[at]
				grow(state(nil, append(slices.Clone(s.Facts), f)...), at+1)
			}
		}
	}
	grow(api.State{}, 0)
	for _, s := range states {
		var names []api.Dot
		for _, f := range s.Facts {
			names = append(names, f.Dot)
		}
		s.Seen = slowRuns(names)
		for dev := range 3 {
			for _, op := range slices.Concat(ops("a", "x", 5), ops("b", "y", -3)) {
				heldAgainst(t, s, dev, op)
			}
		}
		if t.Failed() {
			return
		}
	}
}

// scattered is a state by bytes, three of which are a fact; and what is seen
// besides.
func scattered(x []byte) api.State {
	var s api.State
	next := [devs]int{}
	var l []api.Fact
	var names []api.Dot
	for i := 0; i+2 < len(x) && len(l) < maxFacts; i += 3 {
		dev := int(x[i] % devs)
		next[dev] += 1 + int(x[i]/devs%3)
		f := api.Fact{Dot: dot(dev, next[dev]), Key: string('a' + rune(x[i+1]%3)), Kind: int(x[i+1]/3%3) + 1}
		switch f.Kind {
		case api.FCnt:
			f.N = (int(x[i+2]) - 128) << 33
		default:
			f.Item = string('x' + rune(x[i+2]%3))
		}
		names = append(names, f.Dot)
		if x[i]/devs/3 > 2 {
			l = append(l, f)
		}
	}
	slices.SortFunc(l, func(a, b api.Fact) int { return facts.Cmp(a.Dot, b.Dot) })
	s.Seen, s.Facts = slowRuns(names), l
	return s
}

// 11.1: states at random, of few facts and of many, held against a slow way.
func TestScattered(t *testing.T) {
	r := rand.New(rand.NewSource(13))
	for i := range 400 {
		x := make([]byte, r.Intn(4*min(i+1, maxFacts)+1))
		for i := range x {
			x[i] = byte(r.Intn(256))
		}
		s := scattered(x)
		for _, key := range []string{"a", "b", "c", "d"} {
			for _, op := range ops(key, string('w'+rune(r.Intn(4))), (r.Intn(256)-128)<<33) {
				heldAgainst(t, s, r.Intn(devs), op)
			}
		}
		if t.Failed() {
			return
		}
	}
}

// room is how much is behind the end of what guarded tells.
const room = 3

// guarded is a copy of l with room behind its end, which is filled.
func guarded[T any](l []T, fill T) []T {
	return append(slices.Clone(l), slices.Repeat([]T{fill}, room)...)[:len(l)]
}

// guard is s in other memory, guarded.
func guard(s api.State) api.State {
	return api.State{Seen: guarded(s.Seen, api.Run{Dev: 4, From: 44, To: 444}), Facts: guarded(s.Facts, reg(4, 44, "a", "behind"))}
}

// shown tells all of s, with the room behind it.
func shown(s api.State) string {
	return fmt.Sprintf("%v %#v", s.Seen[:len(s.Seen)+room], s.Facts[:len(s.Facts)+room])
}

// spoil writes into all of s, into its spare room too, and behind it.
func spoil(s api.State) {
	_, _ = append(s.Seen, api.Run{Dev: -9}), append(s.Facts, api.Fact{Key: "appended"})
	for i := range s.Seen[:cap(s.Seen)] {
		s.Seen[:cap(s.Seen)][i] = api.Run{Dev: -9, From: -9, To: -9}
	}
	for i := range s.Facts[:cap(s.Facts)] {
		s.Facts[:cap(s.Facts)][i] = api.Fact{Dot: dot(-9, -9), Key: "spoilt", Kind: -9, Item: "spoilt", N: -9}
	}
}

// whole are states of none, one, and more facts, with ones at the end that go,
// ones at the beginning, and ones that are all.
func whole() []api.State {
	return []api.State{
		{}, state(runs(2, 1, 1)), state(runs(2, 1, 1), reg(2, 1, "a", "m")), state(runs(2, 1, 1), set(2, 1, "a", "m")), state(runs(2, 1, 1), count(2, 1, "a", 1)),
		state(runs(2, 1, 3), reg(2, 1, "a", "m"), set(2, 2, "a", "m"), count(2, 3, "a", 1)), state(runs(2, 1, 2, 3, 1, 1), set(2, 1, "a", "m"), set(2, 2, "a", "m"), set(3, 1, "a", "m")),
		state(runs(2, 1, 2, 3, 1, 1), set(2, 1, "b", "m"), set(2, 2, "a", "m"), set(3, 1, "b", "m")), several(), full(3, maxFacts),
	}
}

// R3: what is handed in stays as it was, behind its end too; what is told shares
// no memory with it, nor with what is told again.
func TestMemory(t *testing.T) {
	for _, one := range whole() {
		for _, op := range append(few(), doSet("", ""), doAdd("z", "z"), api.Op{}) {
			for _, dev := range []int{-1, 2, 3} {
				s := guard(one)
				before := shown(s)
				first, e := mutate.Do(s, dev, op)
				second, _ := mutate.Do(s, dev, op)
				want := api.State{Seen: slices.Clone(second.Seen), Facts: slices.Clone(second.Facts)}
				spoil(first)
				if shown(s) != before {
					t.Fatalf("R3: %v by %d, and who wrote into it, turned %s into %s", op, dev, before, shown(s))
				}
				if !facts.Same(second, want) {
					t.Errorf("R3: two answers of %v by %d share memory", op, dev)
				}
				if third, again := mutate.Do(s, dev, op); !facts.Same(third, want) || again != e {
					t.Errorf("R5: %v by %d tells %v, %d, then %v, %d", op, dev, want, e, third, again)
				}
				for i := range s.Seen {
					s.Seen[i] = api.Run{Dev: -9, From: -9, To: -9}
				}
				for i := range s.Facts {
					s.Facts[i] = api.Fact{Key: "spoilt", Kind: -9, Item: "spoilt", N: -9}
				}
				if !facts.Same(second, want) {
					t.Errorf("R3: %v by %d keeps what it was handed", op, dev)
				}
			}
		}
	}
}

// share tells whether a and b, of which neither is empty, have a byte in common.
func share(a, b string) bool {
	at, to := uintptr(unsafe.Pointer(unsafe.StringData(a))), uintptr(unsafe.Pointer(unsafe.StringData(b)))
	return at < to+uintptr(len(b)) && to < at+uintptr(len(a))
}

// R3: the texts of the new fact are no memory of the op, nor of a fact that goes.
func TestTexts(t *testing.T) {
	key, item := strings.Repeat("k", maxKey), strings.Repeat("i", maxItem)
	old := state(runs(2, 1, 3), reg(2, 1, key, item), set(2, 2, key, item), count(2, 3, key, 1))
	for _, s := range []api.State{{}, old} {
		for _, op := range ops(key, item, 1) {
			got, _ := mutate.Do(s, 2, op)
			for _, f := range got.Facts {
				if share(f.Key, key) || f.Item != "" && share(f.Item, item) {
					t.Errorf("R3: the fact of kind %d shares a text with the op", f.Kind)
				}
			}
		}
	}
}

// R5: the same calls tell the same, whatever was called in between.
func TestAgain(t *testing.T) {
	say := func() string {
		var told []any
		for dev := range devs {
			for _, op := range few() {
				delta, e := mutate.Do(several(), dev, op)
				told = append(told, delta, e)
			}
		}
		return fmt.Sprint(told...)
	}
	first := say()
	for i := range 20 {
		for _, op := range append(few(), api.Op{Kind: i}, doSet(strings.Repeat("k", 99), "")) {
			delta, _ := mutate.Do(full(i%devs, 100+i), i-3, op)
			spoil(delta)
		}
		if got := say(); got != first {
			t.Fatalf("R5: %s, then %s", first, got)
		}
	}
}

// R1: every call ends, and none panics, whatever it is given; what it is given
// stays as it was.
func TestOthers(t *testing.T) {
	r := rand.New(rand.NewSource(14))
	edges := []int{math.MinInt, math.MinInt + 1, -maxUnit - 1, -maxUnit, -1, 0, 1, 2, 3, 4, 5, 6, 7, 8, maxUnit, maxUnit + 1, maxDot - 1, maxDot, maxDot + 1, math.MaxInt - 1, math.MaxInt}
	edge := func() int { return edges[r.Intn(len(edges))] }
	text := func() string { return strings.Repeat("\xfe", []int{0, 1, maxKey, maxKey + 1, maxItem + 1}[r.Intn(5)]) }
	for range 50000 {
		s := api.State{Seen: make([]api.Run, r.Intn(4)), Facts: make([]api.Fact, r.Intn(6))}
		for i := range s.Seen {
			s.Seen[i] = api.Run{Dev: r.Intn(9), From: edge(), To: edge()}
		}
		for i := range s.Facts {
			s.Facts[i] = api.Fact{Dot: dot(edge(), edge()), Key: text(), Kind: r.Intn(5), Item: text(), N: edge()}
		}
		s = guard(s)
		before := shown(s)
		op := api.Op{Kind: r.Intn(7), Key: text(), Item: text(), N: edge()}
		dev := r.Intn(10) - 1
		if delta, e := mutate.Do(s, dev, op); e != api.OK && !facts.Same(delta, api.State{}) {
			t.Fatalf("R4: %v beside %d", delta, e)
		} else if !slowArg(dev, op) && e != api.ErrArg {
			t.Fatalf("11.1: %v by %d: %d", op, dev, e)
		}
		mutate.Do(s, edge(), api.Op{Kind: edge(), Key: text(), Item: text(), N: edge()})
		if shown(s) != before {
			t.Fatalf("R3: %s turned into %s", before, shown(s))
		}
	}
}

// R1: far more facts than may be: each call ends, and soon.
func TestLong(t *testing.T) {
	const far = 1 << 18
	var s api.State
	for i := range far {
		s.Seen = append(s.Seen, api.Run{Dev: 0, From: 2*i + 1, To: 2*i + 1})
		s.Facts = append(s.Facts, api.Fact{Dot: dot(0, 2*i+1), Key: "k", Kind: i%3 + 1})
	}
	for _, op := range ops("k", "", 1) {
		mutate.Do(s, 0, op)
		mutate.Do(s, 1, op)
		mutate.Do(api.State{Seen: s.Seen}, 0, op)
		mutate.Do(api.State{Facts: s.Facts}, 0, op)
	}
	// Many runs may be, where the facts are few.
	s.Facts = s.Facts[far-maxFacts:]
	for _, op := range ops("k", "", 1) {
		heldAgainst(t, s, 0, op)
	}
}

// 11.1 and 11.2, held against a slow way.
func FuzzDo(f *testing.F) {
	f.Add([]byte{}, 0, 1, "a", "x", 0)
	f.Add([]byte{72, 0, 0, 80, 1, 200, 255, 7, 9}, 0, 4, "b", "", 5)
	f.Add([]byte("some facts, of some kinds, and of some keys"), 3, 5, "c", "", 0)
	f.Fuzz(func(t *testing.T, x []byte, dev, kind int, key, item string, n int) {
		heldAgainst(t, scattered(x), dev, api.Op{Kind: kind, Key: key, Item: item, N: n})
	})
}

func BenchmarkDo(b *testing.B) {
	for _, n := range []int{3, 20, maxFacts} {
		s := full(3, n)
		for _, op := range ops("k", "m", 1) {
			b.Run(fmt.Sprint(op.Kind, "/", n), func(b *testing.B) {
				for b.Loop() {
					mutate.Do(s, 3, op)
				}
			})
		}
	}
}
