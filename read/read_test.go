package read_test

import (
	"fmt"
	"math"
	"math/rand"
	"slices"
	"strconv"
	"strings"
	"testing"

	"deaddrop/api"
	"deaddrop/dots"
	"deaddrop/facts"
	"deaddrop/read"
)

const (
	devs     = 8
	maxKey   = 40
	maxItem  = 200
	maxUnit  = 1 << 40
	maxDot   = 1 << 52
	maxFacts = 400
)

// reg, set and count are facts that have no dot yet.
func reg(key, text string) api.Fact {
	return api.Fact{Key: key, Kind: api.FReg, Item: text}
}

func set(key, member string) api.Fact {
	return api.Fact{Key: key, Kind: api.FSet, Item: member}
}

func count(key string, counted int) api.Fact {
	return api.Fact{Key: key, Kind: api.FCnt, N: counted}
}

// regs are registers of one key.
func regs(key string, texts ...string) []api.Fact {
	var l []api.Fact
	for _, text := range texts {
		l = append(l, reg(key, text))
	}
	return l
}

// counts are counters of one key.
func counts(key string, n ...int) []api.Fact {
	var l []api.Fact
	for _, counted := range n {
		l = append(l, count(key, counted))
	}
	return l
}

// dotted is a state of these facts, in this order, by the dots that at tells.
func dotted(at func(i int) api.Dot, l []api.Fact) api.State {
	var s api.State
	var names []api.Dot
	for i, f := range l {
		f.Dot = at(i)
		s.Facts = append(s.Facts, f)
		names = append(names, f.Dot)
	}
	s.Seen = dots.Of(names...)
	return s
}

// state is a state of these facts, in this order, by dots of one device.
func state(l ...api.Fact) api.State {
	return dotted(func(i int) api.Dot { return api.Dot{Dev: 2, N: i + 1} }, l)
}

// states are states of these facts, in this order, by dots of one device and of
// all, side by side and apart, and with more that was seen.
func states(l ...api.Fact) []api.State {
	each := len(l)/devs + 1
	more := state(l...)
	more.Seen = []api.Run{{Dev: 0, From: 1, To: 9}, {Dev: 2, From: 1, To: maxDot}, {Dev: 7, From: 3, To: 3}}
	return []api.State{
		state(l...),
		dotted(func(i int) api.Dot { return api.Dot{Dev: 7, N: maxDot - 2*(len(l)-1-i)} }, l),
		dotted(func(i int) api.Dot { return api.Dot{Dev: i / each, N: i%each + 5} }, l),
		dotted(func(i int) api.Dot { return api.Dot{Dev: i / each, N: 3*i + 1} }, l),
		more,
	}
}

// What a state is to tell of a key.
type wanted struct {
	texts, members []string
	count          int
}

// tells tells the test whether s, which may be, tells this of the key.
func tells(t *testing.T, s api.State, key string, want wanted) {
	t.Helper()
	if !facts.May(s) {
		t.Fatalf("8.1: May(%#v) is false", s)
	}
	if got := read.Texts(s, key); !slices.Equal(got, want.texts) {
		t.Errorf("10.1: Texts(%#v, %q) is %q, not %q", s, key, got, want.texts)
	}
	if got := read.Members(s, key); !slices.Equal(got, want.members) {
		t.Errorf("10.1: Members(%#v, %q) is %q, not %q", s, key, got, want.members)
	}
	if got := read.Count(s, key); got != want.count {
		t.Errorf("10.1: Count(%#v, %q) is %d, not %d", s, key, got, want.count)
	}
}

// keyed tells the test whether s, which may be, tells these keys.
func keyed(t *testing.T, s api.State, want ...string) {
	t.Helper()
	if !facts.May(s) {
		t.Fatalf("8.1: May(%#v) is false", s)
	}
	if got := read.Keys(s); !slices.Equal(got, want) {
		t.Errorf("10.1: Keys(%#v) is %q, not %q", s, got, want)
	}
}

// 10.1: of an empty state, and of one that has just seen something, nothing.
func TestNone(t *testing.T) {
	fact := state(reg("a", "x"))
	for _, s := range []api.State{
		{}, {Seen: []api.Run{}, Facts: []api.Fact{}}, {Seen: fact.Seen, Facts: fact.Facts[:0]}, {Seen: fact.Seen},
		{Seen: []api.Run{{Dev: 0, From: 1, To: maxDot}, {Dev: 7, From: 5, To: 9}}},
	} {
		keyed(t, s)
		for _, key := range []string{"", "a", "x", "\x00", strings.Repeat("a", maxKey), strings.Repeat("a", 1000)} {
			tells(t, s, key, wanted{})
		}
	}
}

// 10.1: of one fact, of each kind, at the edges of what it may have.
func TestOne(t *testing.T) {
	for _, key := range []string{"", "a", "\x00", "\xff\xfe", strings.Repeat("k", maxKey)} {
		for _, item := range []string{"", "x", "\x00", "\x80", key, strings.Repeat("i", maxItem)} {
			for _, s := range states(reg(key, item)) {
				keyed(t, s, key)
				tells(t, s, key, wanted{texts: []string{item}})
			}
			for _, s := range states(set(key, item)) {
				keyed(t, s, key)
				tells(t, s, key, wanted{members: []string{item}})
			}
		}
		for _, n := range []int{0, 1, -1, maxUnit, -maxUnit, 1 << 31, -1 << 32} {
			for _, s := range states(count(key, n)) {
				keyed(t, s, key)
				tells(t, s, key, wanted{count: n})
			}
		}
	}
}

// 10.1: keys and items that stand in another order than they rise, some of them
// often, side by side and apart.
func TestOrder(t *testing.T) {
	for _, c := range []struct{ l, want string }{
		{"abc", "abc"}, {"acb", "abc"}, {"bac", "abc"}, {"bca", "abc"}, {"cab", "abc"}, {"cba", "abc"},
		{"aa", "a"}, {"aaaaaaaaa", "a"}, {"aab", "ab"}, {"abb", "ab"}, {"aba", "ab"}, {"bab", "ab"}, {"baa", "ab"},
		{"abcabc", "abc"}, {"cbaabc", "abc"}, {"ccbbaa", "abc"}, {"zyxwvutsrqponmlkjihgfedcba", "abcdefghijklmnopqrstuvwxyz"},
		{"bcdefghijklmna", "abcdefghijklmn"}, {"nabcdefghijklm", "abcdefghijklmn"},
	} {
		letters, want := strings.Split(c.l, ""), strings.Split(c.want, "")
		for kind := api.FReg; kind <= api.FCnt; kind++ {
			var keys []api.Fact
			for _, letter := range letters {
				keys = append(keys, api.Fact{Key: letter, Kind: kind})
			}
			for _, s := range states(keys...) {
				keyed(t, s, want...)
			}
		}
		var texts, members []api.Fact
		for _, letter := range letters {
			texts, members = append(texts, reg("k", letter)), append(members, set("k", letter))
		}
		for _, s := range states(texts...) {
			keyed(t, s, "k")
			tells(t, s, "k", wanted{texts: want})
		}
		for _, s := range states(members...) {
			keyed(t, s, "k")
			tells(t, s, "k", wanted{members: want})
		}
	}
}

// 10.1: what several facts have is told once: facts of one kind, and of others.
func TestOnce(t *testing.T) {
	l := []api.Fact{
		set("b", "x"), reg("b", "x"), count("a", 3), reg("a", "x"), reg("b", "x"), set("a", "y"), set("b", "x"),
		count("a", 3), reg("a", "w"), set("b", "w"), reg("a", "x"), count("b", 0), set("a", "y"), reg("a", "x"),
	}
	for _, s := range states(l...) {
		keyed(t, s, "a", "b")
		tells(t, s, "a", wanted{texts: []string{"w", "x"}, members: []string{"y"}, count: 6})
		tells(t, s, "b", wanted{texts: []string{"x"}, members: []string{"w", "x"}})
	}
}

// texts rise, byte by byte: also where they rise otherwise by numbers, by
// letters great or small, by runes, or by how long they are.
func texts() []string {
	return []string{
		"", "\x00", "\x00\x00", "\x00\x00\x00", "\x00\x01", "\x00a", "\x01", "\x01\x00", " ", "-1", "-2", "0", "00", "01", "1", "10", "100", "2", "9",
		"A", "Ab", "B", "Z", "Za", "a", "a\x00", "a\x00\x00", "a\x00b", "a ", "aB", "aa", "aaa", "ab", "abc", "ac", "a\x7f", "a\x80", "a\xff", "b", "ba",
		"e\u0301", "z", "zz", "\x7f", "\x7f\xff", "\x80", "\x80\x00", "\x81", "\xbf", "\u00df", "\u00e9", "\u0130", "\u017f", "\u0436", "\u20ac",
		"\xed\xa0\x80", "\ue000", "\ufffd", "\uffff", "\U00010000", "\U0001f600", "\xf4\x90\x80\x80", "\xf8", "\xfe", "\xfe\xff", "\xff", "\xff\x00", "\xff\xff",
	}
}

// R6: keys, texts and members are held against one another byte by byte, in
// whatever order they stand.
func TestBytes(t *testing.T) {
	want := texts()
	r := rand.New(rand.NewSource(10))
	for range 200 {
		l := slices.Concat(want, want[:20])
		r.Shuffle(len(l), func(i, j int) { l[i], l[j] = l[j], l[i] })
		var keys, all []api.Fact
		for _, text := range l {
			keys = append(keys, count(text, 1))
			all = append(all, reg("k", text), set("k", text))
		}
		keyed(t, state(keys...), want...)
		tells(t, state(all...), "k", wanted{texts: want, members: want})
		if t.Failed() {
			return
		}
	}
}

// R6: of each pair the lower one is told first; each is told, though they are
// alike but for one byte.
func TestPairs(t *testing.T) {
	l := texts()
	for high, above := range l {
		for _, below := range l[:high] {
			both := []string{below, above}
			for _, s := range []api.State{state(reg(above, above), reg(below, above), reg(above, below)), state(reg(below, above), reg(above, below), reg(above, above))} {
				keyed(t, s, both...)
				tells(t, s, above, wanted{texts: both})
				tells(t, s, below, wanted{texts: []string{above}})
			}
		}
	}
}

// 10.1: a key is told of, and no other that is almost it.
func TestNear(t *testing.T) {
	long := strings.Repeat("k", maxKey-1)
	keys := append(texts(), long, long+"a", long+"b", "\x00"+long, long+"\x00")
	var l []api.Fact
	want := map[string]wanted{}
	for i, key := range keys {
		text, member := "text "+strconv.Itoa(i), "member "+strconv.Itoa(i)
		l = append(l, reg(key, text), set(key, member), count(key, i*i+1))
		want[key] = wanted{[]string{text}, []string{member}, i*i + 1}
	}
	for _, s := range states(l...) {
		slices.Sort(keys)
		keyed(t, s, keys...)
		for _, key := range keys {
			tells(t, s, key, want[key])
		}
		// A key that none of the facts has, though one begins with it, or it with one.
		for _, key := range []string{"abcd", "kk", long[1:], long + "c", long + "ab", "\x00\x00\x00\x00", "\xf0", "\xff\xff\xff", "text 1", "member 1", "C"} {
			tells(t, s, key, wanted{})
		}
	}
}

// 10.1: a key that is a beginning of another one.
func TestBeginning(t *testing.T) {
	for _, s := range states(set("ab", "m"), reg("abc", "z"), count("a", 1), reg("ab", "y"), reg("", "w"), count("abc", 100), set("", "n"), reg("a", "x"), count("ab", 10)) {
		keyed(t, s, "", "a", "ab", "abc")
		tells(t, s, "", wanted{[]string{"w"}, []string{"n"}, 0})
		tells(t, s, "a", wanted{[]string{"x"}, nil, 1})
		tells(t, s, "ab", wanted{[]string{"y"}, []string{"m"}, 10})
		tells(t, s, "abc", wanted{[]string{"z"}, nil, 100})
		tells(t, s, "abcd", wanted{})
		tells(t, s, "b", wanted{})
		tells(t, s, "bc", wanted{})
	}
}

// 10.1: the empty key is a key; that it is there is not that there is none.
func TestEmptyKey(t *testing.T) {
	for _, s := range states(reg("b", "x"), count("", 4), set("", "m"), reg("", ""), count("", -9)) {
		keyed(t, s, "", "b")
		tells(t, s, "", wanted{[]string{""}, []string{"m"}, -5})
		tells(t, s, "b", wanted{texts: []string{"x"}})
	}
	for _, s := range states(reg("b", "x"), count("a", 1)) {
		keyed(t, s, "a", "b")
		tells(t, s, "", wanted{})
	}
}

// 10.1: an empty text, and an empty member, is one that is told.
func TestEmptyItem(t *testing.T) {
	for _, s := range states(reg("a", ""), set("b", ""), reg("b", "x"), set("a", "y"), reg("c", ""), reg("c", "x"), reg("c", "")) {
		keyed(t, s, "a", "b", "c")
		tells(t, s, "a", wanted{texts: []string{""}, members: []string{"y"}})
		tells(t, s, "b", wanted{texts: []string{"x"}, members: []string{""}})
		tells(t, s, "c", wanted{texts: []string{"", "x"}})
	}
}

// 10.1: one key's registers, members and counters side by side, in each order.
func TestKinds(t *testing.T) {
	l := []api.Fact{reg("k", "x"), reg("k", "a"), set("k", "x"), set("k", "b"), count("k", 5), count("k", -7)}
	r := rand.New(rand.NewSource(1))
	for range 300 {
		r.Shuffle(len(l), func(i, j int) { l[i], l[j] = l[j], l[i] })
		for _, s := range states(l...) {
			keyed(t, s, "k")
			tells(t, s, "k", wanted{[]string{"a", "x"}, []string{"b", "x"}, -2})
		}
		if t.Failed() {
			return
		}
	}
}

// 10.1: a key whose facts are all of one kind, or of two, has nothing of another.
func TestOtherKinds(t *testing.T) {
	l := []api.Fact{
		reg("reg", "x"), set("set", "m"), count("count", 5), reg("but count", "y"), set("but count", "n"),
		reg("but set", "z"), count("but set", 6), set("but reg", "o"), count("but reg", 7),
	}
	for _, s := range states(l...) {
		keyed(t, s, "but count", "but reg", "but set", "count", "reg", "set")
		tells(t, s, "reg", wanted{texts: []string{"x"}})
		tells(t, s, "set", wanted{members: []string{"m"}})
		tells(t, s, "count", wanted{count: 5})
		tells(t, s, "but count", wanted{[]string{"y"}, []string{"n"}, 0})
		tells(t, s, "but set", wanted{[]string{"z"}, nil, 6})
		tells(t, s, "but reg", wanted{nil, []string{"o"}, 7})
	}
}

// 10.1: numbers added up: each of them, also those that are alike.
func TestCount(t *testing.T) {
	for _, c := range []struct {
		n    []int
		want int
	}{
		{[]int{0}, 0}, {[]int{0, 0}, 0}, {[]int{1, 1}, 2}, {[]int{1, 2, 3}, 6}, {[]int{3, 2, 1}, 6}, {[]int{5, -7}, -2}, {[]int{-5, 7}, 2},
		{[]int{-1, -1, -1}, -3}, {[]int{9, -9}, 0}, {[]int{0, -4, 0}, -4}, {[]int{7, 7, 7, 7, 7, 7, 7, 7}, 56},
		{[]int{maxUnit, maxUnit}, 1 << 41}, {[]int{-maxUnit, -maxUnit}, -1 << 41}, {[]int{maxUnit, -maxUnit}, 0}, {[]int{-maxUnit, maxUnit, 1}, 1},
		{[]int{maxUnit, 1}, maxUnit + 1}, {[]int{-maxUnit, -1}, -maxUnit - 1}, {[]int{1 << 31, 1 << 31}, 1 << 32}, {[]int{1 << 30, 1 << 30, -1}, math.MaxInt32},
	} {
		l := counts("k", c.n...)
		for _, s := range states(l...) {
			tells(t, s, "k", wanted{count: c.want})
		}
		for _, s := range states(slices.Concat(counts("", 1000), l, counts("kk", 50), regs("k", "8"), counts("j", -3))...) {
			tells(t, s, "k", wanted{texts: []string{"8"}, count: c.want})
		}
	}
}

// 10.1: Count of as many facts as may be.
func TestCountMany(t *testing.T) {
	for _, c := range []struct{ even, odd, want int }{
		{0, 0, 0}, {1, 1, maxFacts}, {-1, -1, -maxFacts}, {1, -1, 0}, {2, -1, maxFacts / 2}, {maxUnit, maxUnit, maxFacts * maxUnit},
		{-maxUnit, -maxUnit, -maxFacts * maxUnit}, {maxUnit, -maxUnit, 0}, {maxUnit, 1 - maxUnit, maxFacts / 2}, {maxUnit, 0, maxFacts / 2 * maxUnit},
	} {
		l := slices.Repeat(counts("k", c.even, c.odd), maxFacts/2)
		for _, s := range states(l...) {
			keyed(t, s, "k")
			tells(t, s, "k", wanted{count: c.want})
		}
		l[maxFacts-1], l[0] = count("l", 77), count("", 78)
		for _, s := range states(l...) {
			keyed(t, s, "", "k", "l")
			tells(t, s, "k", wanted{count: c.want - c.even - c.odd})
			tells(t, s, "l", wanted{count: 77})
		}
	}
}

// long is the n-th text of so many bytes: they rise by their last bytes alone.
func long(n, size int) string {
	end := strconv.Itoa(1000 + n)
	return strings.Repeat("x", size-len(end)) + end
}

// 10.1: as many keys, texts and members as there may be facts, all others and
// all alike.
func TestMany(t *testing.T) {
	var keys, items []string
	for i := range maxFacts {
		keys, items = append(keys, long(i, maxKey)), append(items, long(i, maxItem))
	}
	order := rand.New(rand.NewSource(2)).Perm(maxFacts)
	var apart, members, alike []api.Fact
	for _, i := range order {
		apart = append(apart, api.Fact{Key: keys[i], Kind: i%3 + api.FReg})
		members = append(members, set("k", items[i]))
		alike = append(alike, set(keys[7], items[7]))
	}
	for _, s := range states(apart...) {
		keyed(t, s, keys...)
	}
	for _, s := range states(members...) {
		keyed(t, s, "k")
		tells(t, s, "k", wanted{members: items})
	}
	for _, s := range states(regs("k", items...)...) {
		tells(t, s, "k", wanted{texts: items})
	}
	slices.Reverse(items)
	s := state(regs("k", items...)...)
	slices.Reverse(items)
	tells(t, s, "k", wanted{texts: items})
	for _, s := range states(alike...) {
		keyed(t, s, keys[7])
		tells(t, s, keys[7], wanted{members: []string{items[7]}})
	}
}

// below tells whether a is below b, byte by byte.
func below(a, b string) bool {
	for i := range min(len(a), len(b)) {
		if a[i] != b[i] {
			return a[i] < b[i]
		}
	}
	return len(a) < len(b)
}

// slowRising are the texts of l that are not below any that is left, one by one.
func slowRising(l []string) []string {
	var out []string
	for {
		lowest := -1
		for i, text := range l {
			told := len(out) > 0 && !below(out[len(out)-1], text)
			if !told && (lowest < 0 || below(text, l[lowest])) {
				lowest = i
			}
		}
		if lowest < 0 {
			return out
		}
		out = append(out, l[lowest])
	}
}

// slow is what s is to tell of the key, and all keys, as the words of 10.1 say it.
func slow(s api.State, key string) (keys []string, want wanted) {
	for _, f := range s.Facts {
		keys = append(keys, f.Key)
		switch {
		case f.Key != key:
		case f.Kind == 1:
			want.texts = append(want.texts, f.Item)
		case f.Kind == 2:
			want.members = append(want.members, f.Item)
		case f.Kind == 3:
			want.count += f.N
		}
	}
	want.texts, want.members = slowRising(want.texts), slowRising(want.members)
	return slowRising(keys), want
}

// few are the texts of which facts that are scattered have their keys and items.
func few() []string {
	return []string{"", "a", "ab", "b", "B", "\x00", "a\x00", "\x80", "\xff", "\u00e9", "10", "9"}
}

// scattered are facts by bytes: two of x are one.
func scattered(x []byte) []api.Fact {
	l := few()
	var out []api.Fact
	for i := 0; i+1 < len(x) && len(out) < maxFacts; i += 2 {
		key, item, n := l[int(x[i])%len(l)], l[int(x[i+1])%len(l)], int(x[i+1])
		switch x[i] / 13 % 3 {
		case 0:
			out = append(out, reg(key, item))
		case 1:
			out = append(out, set(key, item))
		case 2:
			out = append(out, count(key, (n-128)<<33))
		}
	}
	return out
}

// heldAgainst tells the test whether s tells what it is to tell of all keys
// that it may have.
func heldAgainst(t *testing.T, s api.State) {
	t.Helper()
	for _, key := range append(few(), "abc", "no key") {
		keys, want := slow(s, key)
		keyed(t, s, keys...)
		tells(t, s, key, want)
	}
}

// 10.1: all states of up to three facts, of a few keys and items, held against a
// slow way.
func TestAll(t *testing.T) {
	var single []api.Fact
	for _, key := range []string{"", "a", "ab"} {
		single = append(single, reg(key, ""), reg(key, "x"), set(key, "x"), set(key, "\xff"), count(key, 2), count(key, -2))
	}
	for _, f := range single {
		heldAgainst(t, state(f))
		for _, g := range single {
			heldAgainst(t, state(f, g))
			for _, h := range single {
				heldAgainst(t, state(f, g, h))
			}
		}
	}
}

// 10.1: states at random, of few facts and of many, held against a slow way.
func TestScattered(t *testing.T) {
	r := rand.New(rand.NewSource(3))
	for i := range 300 {
		x := make([]byte, r.Intn(2*min(i+1, maxFacts)+1))
		for i := range x {
			x[i] = byte(r.Intn(256))
		}
		for _, s := range states(scattered(x)...) {
			heldAgainst(t, s)
		}
		if t.Failed() {
			return
		}
	}
}

// 10.2: what is not among Keys has nothing; what is among them is there by a
// fact of some kind.
func TestNothing(t *testing.T) {
	r := rand.New(rand.NewSource(4))
	asked := append(slices.Concat(texts(), few()), "no key", strings.Repeat("a", maxKey), strings.Repeat("a", maxKey+1), strings.Repeat("\xff", 1000))
	for range 500 {
		x := make([]byte, r.Intn(24))
		for i := range x {
			x[i] = byte(r.Intn(256))
		}
		s := state(scattered(x)...)
		keys := read.Keys(s)
		for _, key := range asked {
			texts, members, count := read.Texts(s, key), read.Members(s, key), read.Count(s, key)
			if !slices.Contains(keys, key) && (len(texts) > 0 || len(members) > 0 || count != 0) {
				t.Fatalf("10.2: %q is not among Keys, but has %q, %q, %d", key, texts, members, count)
			}
			if slices.Contains(keys, key) != (len(facts.Find(s, key, 0)) > 0) {
				t.Fatalf("10.1: Keys(%#v) is %q, by facts of %q", s, keys, key)
			}
		}
	}
}

// 10.1: a counter whose numbers come to 0 is no key the less.
func TestNought(t *testing.T) {
	for _, s := range states(count("a", 3), count("a", -3), count("b", 0)) {
		keyed(t, s, "a", "b")
		tells(t, s, "a", wanted{})
		tells(t, s, "b", wanted{})
	}
}

// room is how much is behind the end of what guarded tells.
const room = 3

// guarded is a copy of l with room behind its end, which is filled.
func guarded[T any](l []T, fill T) []T {
	return append(slices.Clone(l), slices.Repeat([]T{fill}, room)...)[:len(l)]
}

// guard is s in other memory, guarded.
func guard(s api.State) api.State {
	return api.State{Seen: guarded(s.Seen, api.Run{Dev: 4, From: 44, To: 444}), Facts: guarded(s.Facts, reg("a", "behind"))}
}

// shown tells all of s, with the room behind it.
func shown(s api.State) string {
	return fmt.Sprintf("%v %#v", s.Seen[:len(s.Seen)+room], s.Facts[:len(s.Facts)+room])
}

// spoil writes into all of l, into its spare room too, and behind it.
func spoil(l []string) {
	_ = append(l, "appended")
	for i := range l[:cap(l)] {
		l[:cap(l)][i] = "spoilt"
	}
}

// spoilState writes into all of s.
func spoilState(s api.State) {
	for i := range s.Seen {
		s.Seen[i] = api.Run{Dev: -9, From: -9, To: -9}
	}
	for i := range s.Facts {
		s.Facts[i] = api.Fact{Key: "spoilt", Kind: -9, Item: "spoilt", N: -9}
	}
}

// lists are the calls that tell lists.
func lists(s api.State) map[string]func() []string {
	calls := map[string]func() []string{"Keys": func() []string { return read.Keys(s) }}
	for _, key := range []string{"", "a", "b", "none"} {
		calls["Texts of "+key] = func() []string { return read.Texts(s, key) }
		calls["Members of "+key] = func() []string { return read.Members(s, key) }
	}
	return calls
}

// whole are states of any kind of fact: none, one, and more, in order and not.
func whole() []api.State {
	l := []api.Fact{reg("b", "z"), set("a", "m"), count("c", 5), reg("b", "x"), set("a", "k"), reg("a", ""), reg("b", "z"), count("c", -7), set("a", "m"), count("b", 1)}
	return []api.State{
		{}, {Seen: []api.Run{{Dev: 1, From: 1, To: 9}}}, state(l[0]), state(l[1]), state(l[2]), state(l[:4]...), state(l...),
		state(regs("a", "1", "2", "3", "4", "5")...), state(regs("a", "5", "4", "3", "2", "1")...), state(regs("a", "5", "5", "5", "5", "5")...),
		state(reg("a", "x"), reg("b", "y")), state(set("b", "x"), set("a", "y"), set("b", "w")), states(l...)[2],
	}
}

// R3: what is handed in stays as it was, behind its end too; what is told shares
// no memory with it, nor with what is told again.
func TestMemory(t *testing.T) {
	for _, one := range whole() {
		s := guard(one)
		before := shown(s)
		for _, key := range []string{"", "a", "b", "c", "none"} {
			read.Count(s, key)
		}
		for name, call := range lists(s) {
			first, second := call(), call()
			want := slices.Clone(second)
			spoil(first)
			if shown(s) != before {
				t.Fatalf("R3: %s, and who wrote into it, turned %s into %s", name, before, shown(s))
			}
			if !slices.Equal(second, want) || !slices.Equal(call(), want) {
				t.Errorf("R3: two answers of %s share memory: %q, not %q", name, second, want)
			}
		}
	}
}

// R3: no two of the lists that are told of one state share memory.
func TestApart(t *testing.T) {
	for _, s := range whole() {
		for spoilt, call := range lists(s) {
			got, want := map[string][]string{}, map[string][]string{}
			for name, other := range lists(s) {
				got[name] = other()
				want[name] = slices.Clone(got[name])
			}
			spoil(call())
			spoil(got[spoilt])
			for name, l := range got {
				if name != spoilt && !slices.Equal(l, want[name]) {
					t.Errorf("R3: %s shares memory with %s", name, spoilt)
				}
			}
		}
	}
}

// R3: what is told is not turned by who writes into what was handed in.
func TestKept(t *testing.T) {
	for _, one := range whole() {
		for name, call := range lists(one) {
			s := guard(one)
			got := lists(s)[name]()
			spoilState(s)
			if want := call(); !slices.Equal(got, want) {
				t.Errorf("R3: %s keeps what it was handed: %q, not %q", name, got, want)
			}
		}
	}
}

// R5: the same calls tell the same, whatever was called in between.
func TestAgain(t *testing.T) {
	s := whole()[6]
	say := func() string {
		return fmt.Sprintf("%q %q %q %d", read.Keys(s), read.Texts(s, "b"), read.Members(s, "a"), read.Count(s, "c"))
	}
	first := say()
	for i := range 20 {
		other := state(scattered([]byte(long(i, 60)))...)
		spoil(read.Keys(other))
		spoil(read.Texts(other, "b"))
		spoil(read.Members(other, "a"))
		read.Count(other, "c")
		spoil(read.Keys(s))
		spoil(read.Texts(s, "b"))
		if got := say(); got != first {
			t.Fatalf("R5: %s, then %s", first, got)
		}
	}
}

// R1: every call ends, and none panics, whatever it is given; what it is given
// stays as it was.
func TestOthers(t *testing.T) {
	r := rand.New(rand.NewSource(5))
	edges := []int{math.MinInt, math.MinInt + 1, -maxUnit - 1, -1, 0, 1, 2, 3, 4, 7, 8, maxUnit + 1, maxDot + 1, math.MaxInt - 1, math.MaxInt}
	edge := func() int { return edges[r.Intn(len(edges))] }
	text := func() string { return strings.Repeat("\xfe", []int{0, 1, maxKey + 1, maxItem + 1}[r.Intn(4)]) }
	for range 30000 {
		s := api.State{Seen: make([]api.Run, r.Intn(4)), Facts: make([]api.Fact, r.Intn(6))}
		for i := range s.Seen {
			s.Seen[i] = api.Run{Dev: edge(), From: edge(), To: edge()}
		}
		for i := range s.Facts {
			s.Facts[i] = api.Fact{Dot: api.Dot{Dev: edge(), N: edge()}, Key: text(), Kind: edge(), Item: text(), N: edge()}
		}
		s = guard(s)
		before := shown(s)
		for _, key := range append(read.Keys(s), text(), "k") {
			read.Texts(s, key)
			read.Members(s, key)
			read.Count(s, key)
		}
		if shown(s) != before {
			t.Fatalf("R3: %s turned into %s", before, shown(s))
		}
	}
}

// R1: far more facts than may be: each call ends, and soon.
func TestLong(t *testing.T) {
	const far = 1 << 18
	var l []api.Fact
	for i := range far {
		l = append(l, reg(strconv.Itoa(i*7919%far), "x"), reg("k", strconv.Itoa(i*7919%far)), count("c", i))
	}
	s := state(l...)
	if got := read.Keys(s); len(got) != far+2 || !slices.IsSorted(got) {
		t.Errorf("10.1: %d Keys of %d", len(got), far+2)
	}
	if got := read.Texts(s, "k"); len(got) != far || !slices.IsSorted(got) {
		t.Errorf("10.1: %d Texts of %d", len(got), far)
	}
	if got := read.Count(s, "c"); got != far*(far-1)/2 {
		t.Errorf("10.1: Count of many is %d", got)
	}
}

// 10.1 and 10.2, held against a slow way.
func FuzzRead(f *testing.F) {
	f.Add([]byte{})
	f.Add([]byte{1, 2, 14, 2, 27, 200})
	f.Add([]byte("some facts, of some kinds, and of some keys"))
	f.Fuzz(func(t *testing.T, x []byte) {
		heldAgainst(t, state(scattered(x)...))
	})
}

func BenchmarkRead(b *testing.B) {
	for _, n := range []int{1, 20, maxFacts} {
		var l []api.Fact
		for i := range n {
			l = append(l, api.Fact{Key: long(i%20, maxKey), Kind: i/20%3 + api.FReg})
		}
		s, key := state(l...), long(0, maxKey)
		for _, c := range []struct {
			name string
			call func()
		}{
			{"Keys", func() { read.Keys(s) }},
			{"Texts", func() { read.Texts(s, key) }},
			{"Members", func() { read.Members(s, key) }},
			{"Count", func() { read.Count(s, key) }},
		} {
			b.Run(fmt.Sprint(c.name, "/", n), func(b *testing.B) {
				for b.Loop() {
					c.call()
				}
			})
		}
	}
}
