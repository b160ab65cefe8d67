package facts_test

import (
	"fmt"
	"math"
	"math/rand"
	"slices"
	"strings"
	"testing"

	"deaddrop/api"
	"deaddrop/dots"
	"deaddrop/facts"
)

const (
	devs     = 8
	maxKey   = 40
	maxItem  = 200
	maxUnit  = 1 << 40
	maxDot   = 1 << 52
	maxFacts = 400
)

// runs are Dev, From, To; Dev, From, To; and so on.
func runs(n ...int) []api.Run {
	var l []api.Run
	for i := 0; i+2 < len(n); i += 3 {
		l = append(l, api.Run{Dev: n[i], From: n[i+1], To: n[i+2]})
	}
	return l
}

func dot(dev, n int) api.Dot {
	return api.Dot{Dev: dev, N: n}
}

func reg(dev, n int, key, text string) api.Fact {
	return api.Fact{Dot: dot(dev, n), Key: key, Kind: api.FReg, Item: text}
}

func set(dev, n int, key, member string) api.Fact {
	return api.Fact{Dot: dot(dev, n), Key: key, Kind: api.FSet, Item: member}
}

func count(dev, n int, key string, counted int) api.Fact {
	return api.Fact{Dot: dot(dev, n), Key: key, Kind: api.FCnt, N: counted}
}

func state(seen []api.Run, l ...api.Fact) api.State {
	return api.State{Seen: seen, Facts: l}
}

// row are n facts of dev, by dots side by side.
func row(dev, from, n int) []api.Fact {
	l := make([]api.Fact, n)
	for i := range l {
		l[i] = reg(dev, from+i, "k", "")
	}
	return l
}

// lists are all lists of up to so many of these.
func lists[T any](all []T, long int) [][]T {
	out := [][]T{nil}
	for begin := 0; long > 0; long-- {
		end := len(out)
		for _, l := range out[begin:end] {
			for _, item := range all {
				out = append(out, append(slices.Clone(l), item))
			}
		}
		begin = end
	}
	return out
}

// 8.1: dots that are one, that differ in one field and in both, each both ways.
func TestCmp(t *testing.T) {
	for _, c := range []struct {
		a, b api.Dot
		want int
	}{
		{api.Dot{}, api.Dot{}, 0},
		{dot(0, 1), dot(0, 1), 0},
		{dot(7, maxDot), dot(7, maxDot), 0},
		{dot(-1, -1), dot(-1, -1), 0},
		{dot(math.MinInt, math.MaxInt), dot(math.MinInt, math.MaxInt), 0},
		{dot(0, 1), dot(1, 1), -1},
		{dot(6, 1), dot(7, 1), -1},
		{dot(0, 1), dot(7, 1), -1},
		{dot(-1, 1), dot(0, 1), -1},
		{dot(0, 1), dot(0, 2), -1},
		{dot(0, 1), dot(0, 3), -1},
		{dot(5, 0), dot(5, 1), -1},
		{dot(5, -1), dot(5, 0), -1},
		{dot(5, maxDot-1), dot(5, maxDot), -1},
		{dot(5, 9), dot(5, 10), -1},
		{dot(0, 1), dot(1, 2), -1},
		{dot(0, 2), dot(1, 1), -1},
		{dot(0, maxDot), dot(1, 1), -1},
		{dot(2, 9), dot(3, -9), -1},
		{dot(0, 1<<32), dot(1, 0), -1},
		{dot(math.MinInt, 0), dot(math.MaxInt, 0), -1},
		{dot(math.MinInt, math.MaxInt), dot(math.MaxInt, math.MinInt), -1},
		{dot(-2, 0), dot(math.MaxInt, 0), -1},
		{dot(0, math.MinInt), dot(0, math.MaxInt), -1},
		{dot(0, math.MinInt), dot(0, 1), -1},
		{dot(0, -2), dot(0, math.MaxInt), -1},
	} {
		if got := facts.Cmp(c.a, c.b); got != c.want {
			t.Errorf("8.1: Cmp(%v, %v) is %d", c.a, c.b, got)
		}
		if got := facts.Cmp(c.b, c.a); got != -c.want {
			t.Errorf("8.1: Cmp(%v, %v) is %d", c.b, c.a, got)
		}
	}
}

// 8.1: all pairs of a list that is in order.
func TestCmpAll(t *testing.T) {
	edges := []int{math.MinInt, math.MinInt + 1, -maxDot, -1, 0, 1, 2, 7, 8, maxDot, maxDot + 1, math.MaxInt - 1, math.MaxInt}
	var l []api.Dot
	for _, dev := range edges {
		for _, n := range edges {
			l = append(l, dot(dev, n))
		}
	}
	for i, a := range l {
		for j, b := range l {
			want := 0
			if i < j {
				want = -1
			} else if i > j {
				want = 1
			}
			if got := facts.Cmp(a, b); got != want {
				t.Errorf("8.1: Cmp(%v, %v) is %d", a, b, got)
			}
		}
	}
}

// 8.1: the edges of each field, of each kind: what a field may be hangs on the
// kind, and on no other field.
func TestRight(t *testing.T) {
	text := func(n int) string { return strings.Repeat("x", n) }
	keys := []struct {
		key string
		ok  bool
	}{{"", true}, {"k", true}, {text(maxKey - 1), true}, {text(maxKey), true}, {text(maxKey + 1), false}, {text(maxItem), false}}
	items := []struct {
		item         string
		texts, empty bool
	}{{"", true, true}, {"i", true, false}, {"\x00", true, false}, {text(maxKey + 1), true, false}, {text(maxItem - 1), true, false}, {text(maxItem), true, false}, {text(maxItem + 1), false, false}}
	numbers := []struct {
		n           int
		none, units bool
	}{
		{0, true, true}, {1, false, true}, {-1, false, true}, {maxUnit - 1, false, true}, {maxUnit, false, true}, {maxUnit + 1, false, false},
		{-maxUnit + 1, false, true}, {-maxUnit, false, true}, {-maxUnit - 1, false, false}, {math.MaxInt, false, false}, {math.MinInt, false, false}, {math.MinInt + 1, false, false},
	}
	kinds := []int{math.MinInt, -1, 0, 1, 2, 3, 4, 5, 257, math.MaxInt}
	for _, k := range keys {
		for _, i := range items {
			for _, n := range numbers {
				for _, kind := range kinds {
					want := false
					switch kind {
					case 1, 2:
						want = k.ok && i.texts && n.none
					case 3:
						want = k.ok && i.empty && n.units
					}
					f := api.Fact{Dot: dot(0, 1), Key: k.key, Kind: kind, Item: i.item, N: n.n}
					if got := facts.Right(f); got != want {
						t.Errorf("8.1: Right of kind %d, a key of %d, an item of %d, N %d is %v", kind, len(k.key), len(i.item), n.n, got)
					}
				}
			}
		}
	}
}

// 8.1: bytes are counted, not what they say.
func TestRightBytes(t *testing.T) {
	for _, c := range []struct {
		f    api.Fact
		want bool
	}{
		{reg(0, 1, strings.Repeat("\u00e9", maxKey/2), strings.Repeat("\u00e9", maxItem/2)), true},
		{reg(0, 1, strings.Repeat("\u00e9", maxKey/2)+"x", ""), false},
		{reg(0, 1, "", strings.Repeat("\u00e9", maxItem/2)+"x"), false},
		{set(0, 1, strings.Repeat("\u20ac", 13)+"x", strings.Repeat("\u20ac", 66)+"xx"), true},
		{set(0, 1, strings.Repeat("\u20ac", 14), ""), false},
		{set(0, 1, "", strings.Repeat("\u20ac", 67)), false},
		{count(0, 1, strings.Repeat("\u00e9", maxKey), 0), false},
		{count(0, 1, strings.Repeat("\x00", maxKey), 0), true},
		{count(0, 1, strings.Repeat("\x00", maxKey+1), 0), false},
		{reg(0, 1, strings.Repeat("\xff", maxKey), strings.Repeat("\xff", maxItem)), true},
		{reg(0, 1, strings.Repeat("\xff", maxKey+1), ""), false},
		{reg(0, 1, "", strings.Repeat("\xff", maxItem+1)), false},
	} {
		if got := facts.Right(c.f); got != c.want {
			t.Errorf("8.1: Right(%#v) is %v", c.f, got)
		}
	}
}

// 8.1: nothing is asked of the dot.
func TestRightDot(t *testing.T) {
	for _, d := range []api.Dot{{}, dot(0, 1), dot(-1, -1), dot(8, maxDot+1), dot(math.MinInt, math.MaxInt)} {
		for _, f := range []api.Fact{reg(d.Dev, d.N, "k", "i"), set(d.Dev, d.N, "k", "i"), count(d.Dev, d.N, "k", -3)} {
			if !facts.Right(f) {
				t.Errorf("8.1: Right(%v) is false", f)
			}
		}
		if f := (api.Fact{Dot: d}); facts.Right(f) {
			t.Errorf("8.1: Right(%v) is true", f)
		}
	}
}

// 8.1: each rule of May, at its edges.
func TestMay(t *testing.T) {
	a, b, c := reg(0, 1, "a", "x"), set(0, 2, "a", "y"), count(1, 1, "b", -4)
	seen := runs(0, 1, 3, 1, 1, 1, 2, 5, 6, 2, 8, 9, 7, maxDot, maxDot)
	bare := api.Fact{Dot: dot(0, 3)}
	for _, c := range []struct {
		name string
		s    api.State
		want bool
	}{
		{"nothing", api.State{}, true},
		{"empty lists", api.State{Seen: []api.Run{}, Facts: []api.Fact{}}, true},
		{"runs alone", state(seen), true},
		{"all dots", state(runs(0, 1, maxDot, 7, 1, maxDot)), true},
		{"one fact", state(seen, a), true},
		{"one fact, its dot alone", state(runs(0, 1, 1), a), true},
		{"all kinds", state(seen, a, b, c), true},
		{"a dot in each run", state(seen, reg(0, 3, "", ""), c, set(2, 5, "", ""), count(2, 9, "", 0), reg(7, maxDot, "", "")), true},
		{"a key by many dots", state(seen, a, reg(0, 2, "a", "x"), reg(0, 3, "a", "x")), true},
		{"keys that fall", state(seen, reg(0, 1, "z", "z"), reg(0, 2, "a", "a")), true},
		{"kinds that fall", state(seen, count(0, 1, "k", 9), set(0, 2, "k", ""), reg(0, 3, "k", "")), true},

		{"runs that touch", state(runs(0, 1, 2, 0, 3, 3), a), false},
		{"runs that touch, no facts", state(runs(0, 1, 2, 0, 3, 3)), false},
		{"runs that overlap", state(runs(0, 1, 2, 0, 2, 3), a), false},
		{"runs that fall", state(runs(0, 3, 3, 0, 1, 1), a), false},
		{"a run twice", state(runs(0, 1, 1, 0, 1, 1), a), false},
		{"devices that fall", state(runs(1, 1, 1, 0, 1, 1), c), false},
		{"a run of no dots", state(runs(0, 2, 1)), false},
		{"a run from 0", state(runs(0, 0, 1), a), false},
		{"a run beyond MaxDot", state(runs(0, 1, maxDot+1), a), false},
		{"a run of device -1", state(runs(-1, 1, 1)), false},
		{"a run of device 8", state(runs(devs, 1, 1)), false},
		{"a run of zeros", state(make([]api.Run, 1)), false},

		{"nothing seen", state(nil, a), false},
		{"a dot behind its run", state(runs(0, 1, 3), reg(0, 4, "a", "")), false},
		{"a dot ahead of its run", state(runs(0, 2, 3), a), false},
		{"a dot in a gap", state(seen, reg(2, 7, "a", "")), false},
		{"a dot of another device", state(runs(0, 1, 3), c), false},
		{"a dot of device -1", state(seen, reg(-1, 1, "a", "")), false},
		{"a dot of device 8", state(seen, reg(devs, 1, "a", "")), false},
		{"dot 0", state(seen, reg(0, 0, "a", "")), false},
		{"dot -1", state(seen, reg(0, -1, "a", "")), false},
		{"a dot beyond MaxDot", state(seen, reg(7, maxDot+1, "a", "")), false},
		{"the first not seen", state(runs(0, 2, 3, 1, 1, 1), a, b, c), false},
		{"one in the midst not seen", state(runs(0, 1, 1, 1, 1, 1), a, b, c), false},
		{"the last not seen", state(runs(0, 1, 3), a, b, c), false},

		{"no kind", state(seen, bare), false},
		{"kind 4", state(seen, api.Fact{Dot: dot(0, 1), Kind: 4}), false},
		{"a key too long", state(seen, reg(0, 1, strings.Repeat("k", maxKey+1), "")), false},
		{"the longest key", state(seen, reg(0, 1, strings.Repeat("k", maxKey), "")), true},
		{"an item too long", state(seen, set(0, 1, "", strings.Repeat("i", maxItem+1))), false},
		{"the longest item", state(seen, set(0, 1, "", strings.Repeat("i", maxItem))), true},
		{"a count too great", state(seen, count(0, 1, "", maxUnit+1)), false},
		{"the greatest count", state(seen, count(0, 1, "", maxUnit)), true},
		{"the first not right", state(seen, count(0, 1, "", -maxUnit-1), b, c), false},
		{"one in the midst not right", state(seen, a, b, bare, c), false},
		{"the last not right", state(seen, a, b, bare), false},

		{"two that fall, by N", state(seen, b, a), false},
		{"two that fall, by Dev", state(seen, c, a), false},
		{"two that fall by Dev, and rise by N", state(seen, c, b), false},
		{"two that rise by Dev, and fall by N", state(seen, b, c), true},
		{"the last two fall", state(seen, a, c, b), false},
		{"the first two fall", state(seen, b, a, c), false},
		{"ends that fall", state(seen, reg(0, 3, "", ""), b, a), false},
		{"a dot twice, one fact", state(seen, a, a), false},
		{"a dot twice, two facts", state(seen, a, reg(0, 1, "b", "z")), false},
		{"a dot twice, two kinds", state(seen, a, count(0, 1, "a", 1)), false},
		{"a dot twice, at the end", state(seen, a, b, c, c), false},
		{"a dot twice, not side by side", state(seen, a, b, a), false},
	} {
		if got := facts.May(c.s); got != c.want {
			t.Errorf("8.1: May of %s is %v", c.name, got)
		}
	}
}

// 8.1: MaxFacts facts, of one device and of all, and one more.
func TestMayMany(t *testing.T) {
	seen := runs(2, 1, 2*maxFacts)
	for n, want := range map[int]bool{maxFacts - 1: true, maxFacts: true, maxFacts + 1: false, 2 * maxFacts: false} {
		if got := facts.May(state(seen, row(2, 1, n)...)); got != want {
			t.Errorf("8.1: May of %d facts is %v", n, got)
		}
	}
	var all []api.Fact
	seen = nil
	for dev := range devs {
		all = append(all, row(dev, maxDot-49, 50)...)
		seen = append(seen, api.Run{Dev: dev, From: 2, To: maxDot})
	}
	if !facts.May(state(seen, all...)) {
		t.Errorf("8.1: May of %d facts of all devices is false", len(all))
	}
	if facts.May(state(seen, append(row(0, 2, 1), all...)...)) {
		t.Error("8.1: May of one fact too many, ahead, is true")
	}
	for i := range all {
		l := slices.Clone(all)
		l[i].Kind = 0
		if facts.May(state(seen, l...)) {
			t.Errorf("8.1: May of %d facts is true, whose %d-th is not right", maxFacts, i)
		}
		l = slices.Clone(all)
		l[i].Dot.N = 1
		if facts.May(state(seen, l...)) {
			t.Errorf("8.1: May of %d facts is true, whose %d-th was not seen", maxFacts, i)
		}
		if i > 0 {
			l = slices.Clone(all)
			l[i-1], l[i] = l[i], l[i-1]
			if facts.May(state(seen, l...)) {
				t.Errorf("8.1: May of %d facts is true, whose %d-th is ahead of its place", maxFacts, i)
			}
			l[i-1], l[i] = all[i], all[i]
			if facts.May(state(seen, l...)) {
				t.Errorf("8.1: May of %d facts is true, whose %d-th stands twice", maxFacts, i)
			}
		}
	}
}

// slowMay tells it by all dots of the numbers from 1 to 9, one by one.
func slowMay(s api.State) bool {
	if len(s.Facts) > maxFacts || !dots.May(s.Seen) {
		return false
	}
	var names []string
	for _, f := range s.Facts {
		seen := slices.ContainsFunc(s.Seen, func(r api.Run) bool {
			return r.Dev == f.Dot.Dev && r.From <= f.Dot.N && f.Dot.N <= r.To
		})
		if !seen || !facts.Right(f) {
			return false
		}
		names = append(names, fmt.Sprint(f.Dot.Dev, f.Dot.N))
	}
	return slices.IsSorted(names) && len(slices.Compact(names)) == len(s.Facts)
}

// 8.1: all states of up to two runs and up to three facts, of small numbers,
// held against a slow way.
func TestMayAll(t *testing.T) {
	var ones []api.Run
	for dev := range 2 {
		for from := 1; from <= 3; from++ {
			for to := from; to <= 3; to++ {
				ones = append(ones, api.Run{Dev: dev, From: from, To: to})
			}
		}
	}
	var single []api.Fact
	for dev := range 2 {
		for n := 1; n <= 3; n++ {
			single = append(single, reg(dev, n, "k", ""))
		}
	}
	single = append(single, count(1, 2, "k", 1), api.Fact{Dot: dot(0, 2), Kind: api.FCnt, Item: "x"})
	seens, held := lists(ones, 2), lists(single, 3)
	may := 0
	for _, seen := range seens {
		for _, l := range held {
			want := slowMay(state(seen, l...))
			if got := facts.May(state(seen, l...)); got != want {
				t.Fatalf("8.1: May(%v, %v) is %v", seen, l, got)
			}
			if want {
				may++
			}
		}
	}
	if may < 100 {
		t.Errorf("only %d of the states may be", may)
	}
}

// differing are states no two of which are the same: they differ in one run, in
// one field, in how many facts there are, in their order.
func differing() []api.State {
	seen := runs(0, 1, 5, 3, 2, 4)
	l := []api.Fact{reg(0, 1, "a", "x"), set(0, 2, "a", "y"), count(3, 3, "b", 7)}
	out := []api.State{state(nil), state(seen), state(nil, l...), state(seen, l...)}
	for _, other := range [][]api.Run{
		runs(0, 1, 5), runs(3, 2, 4), runs(3, 2, 4, 0, 1, 5), runs(0, 1, 5, 3, 2, 4, 4, 1, 1), runs(0, 1, 5, 0, 1, 5, 3, 2, 4),
		runs(1, 1, 5, 3, 2, 4), runs(0, 2, 5, 3, 2, 4), runs(0, 1, 6, 3, 2, 4), runs(0, 1, 5, 4, 2, 4), runs(0, 1, 5, 3, 3, 4), runs(0, 1, 5, 3, 2, 5),
		runs(0, 1, 2, 0, 3, 5, 3, 2, 4),
	} {
		out = append(out, state(other, l...))
	}
	for i := range l {
		for _, turn := range []func(f *api.Fact){
			func(f *api.Fact) { f.Dot.Dev++ }, func(f *api.Fact) { f.Dot.N++ }, func(f *api.Fact) { f.Key += "x" }, func(f *api.Fact) { f.Key = "" },
			func(f *api.Fact) { f.Kind += 5 }, func(f *api.Fact) { f.Item += "\x00" }, func(f *api.Fact) { f.N-- }, func(f *api.Fact) { f.N = -f.N + 100 },
		} {
			other := slices.Clone(l)
			turn(&other[i])
			out = append(out, state(seen, other...))
		}
		out = append(out, state(seen, slices.Delete(slices.Clone(l), i, i+1)...), state(seen, slices.Insert(slices.Clone(l), i, l[i])...), state(seen, l[i]))
	}
	backwards := slices.Clone(l)
	slices.Reverse(backwards)
	return append(out, state(seen, backwards...), state(seen, l[1], l[0], l[2]), state(seen, l[0], l[2], l[1]))
}

// 8.1: a state is the same as itself in other memory, and as no other.
func TestSame(t *testing.T) {
	l := differing()
	for i, a := range l {
		for j, b := range l {
			b = state(slices.Clone(b.Seen), slices.Clone(b.Facts)...)
			if got := facts.Same(a, b); got != (i == j) {
				t.Errorf("8.1: Same(%v, %v) is %v", a, b, got)
			}
		}
	}
}

// 8.1 and R3: a nil list and an empty one are one; so are ones with room behind.
func TestSameNone(t *testing.T) {
	seen, l := runs(0, 1, 5), row(0, 1, 3)
	none := []api.State{{}, {Seen: []api.Run{}}, {Facts: []api.Fact{}}, {Seen: []api.Run{}, Facts: []api.Fact{}}, {Seen: seen[:0], Facts: l[:0]}}
	for i, a := range none {
		for j, b := range none {
			if !facts.Same(a, b) || !facts.May(a) {
				t.Errorf("R3: %d and %d of none are not the same", i, j)
			}
		}
		for _, b := range []api.State{state(seen), state(nil, l...), state(seen, l...)} {
			if facts.Same(a, b) || facts.Same(b, a) {
				t.Errorf("8.1: %v is the same as none", b)
			}
		}
	}
	for _, c := range [][2]api.State{{state(nil, l...), {Seen: []api.Run{}, Facts: l}}, {state(seen), {Seen: seen, Facts: []api.Fact{}}}} {
		if !facts.Same(c[0], c[1]) || !facts.Same(c[1], c[0]) {
			t.Errorf("R3: %#v, %#v are not the same", c[0], c[1])
		}
	}
}

// 8.1: whatever they are, states that may not be as well.
func TestSameOthers(t *testing.T) {
	a := state(runs(9, 9, 1), api.Fact{Dot: dot(-1, -1), Key: strings.Repeat("k", 99), Kind: 77, N: math.MinInt})
	b := state(runs(9, 9, 1), api.Fact{Dot: dot(-1, -1), Key: strings.Repeat("k", 99), Kind: 77, N: math.MinInt})
	if !facts.Same(a, b) {
		t.Errorf("8.1: %v is not the same as itself", a)
	}
	b.Facts[0].Key = strings.Repeat("k", 98)
	if facts.Same(a, b) {
		t.Errorf("8.1: %v is the same as %v", a, b)
	}
}

// 8.2: a state without facts still knows what was seen.
func TestSeenAlone(t *testing.T) {
	sets := [][]api.Run{nil, runs(0, 1, 1), runs(0, 1, 2), runs(0, 2, 2), runs(0, 1, 1, 0, 3, 3), runs(7, 1, maxDot), runs(0, 1, 1, 1, 1, 1)}
	for i, a := range sets {
		if !facts.May(state(a)) {
			t.Errorf("8.2: %v alone may not be", a)
		}
		if got := facts.Find(state(a), "", 0); len(got) > 0 {
			t.Errorf("8.2: %v alone has %v", a, got)
		}
		for j, b := range sets {
			if got := facts.Same(state(a), state(b)); got != (i == j) {
				t.Errorf("8.2: Same of %v and %v alone is %v", a, b, got)
			}
		}
		// What it knows: of facts that may stand in it, just those seen.
		for dev := range devs {
			for _, n := range []int{1, 2, 3, 4, maxDot} {
				f := reg(dev, n, "k", "i")
				if got := facts.May(state(a, f)); got != dots.Has(a, f.Dot) {
					t.Errorf("8.2: May of %v and %v is %v", a, f, got)
				}
			}
		}
	}
}

// 8.1: keys that are there, and not; each kind, any, and ones that there are not.
func TestFind(t *testing.T) {
	l := []api.Fact{
		reg(0, 1, "a", "x"), set(0, 2, "a", "y"), count(0, 3, "b", 1), set(0, 4, "a", "x"), reg(0, 5, "a", "z"),
		reg(1, 1, "", ""), count(1, 2, "a", 5), count(1, 3, "", -5), set(1, 4, "ab", "a"), reg(1, 5, "A", ""), count(2, 1, "a", 5),
	}
	s := state(runs(0, 1, 9, 1, 1, 9, 2, 1, 1), l...)
	if !facts.May(s) {
		t.Fatal("8.1: May is false")
	}
	for _, c := range []struct {
		key  string
		kind int
		want []int
	}{
		{"a", 0, []int{0, 1, 3, 4, 6, 10}},
		{"a", api.FReg, []int{0, 4}},
		{"a", api.FSet, []int{1, 3}},
		{"a", api.FCnt, []int{6, 10}},
		{"b", 0, []int{2}},
		{"b", api.FReg, nil},
		{"b", api.FSet, nil},
		{"b", api.FCnt, []int{2}},
		{"", 0, []int{5, 7}},
		{"", api.FReg, []int{5}},
		{"", api.FSet, nil},
		{"", api.FCnt, []int{7}},
		{"ab", 0, []int{8}},
		{"ab", api.FSet, []int{8}},
		{"ab", api.FReg, nil},
		{"A", 0, []int{9}},
		{"c", 0, nil},
		{"c", api.FReg, nil},
		{"abc", 0, nil},
		{"a\x00", 0, nil},
		{"a ", 0, nil},
		{"x", 0, nil},
		{strings.Repeat("a", 1000), 0, nil},
		{"a", 4, nil},
		{"a", -1, nil},
		{"a", 1 + 1<<32, nil},
		{"a", math.MaxInt, nil},
		{"a", math.MinInt, nil},
		{"c", 4, nil},
	} {
		var want []api.Fact
		for _, i := range c.want {
			want = append(want, l[i])
		}
		if got := facts.Find(s, c.key, c.kind); !slices.Equal(got, want) {
			t.Errorf("8.1: Find(%q, %d) is %v, not %v", c.key, c.kind, got, want)
		}
		for _, none := range []api.State{{}, state(s.Seen), {Facts: []api.Fact{}}} {
			if got := facts.Find(none, c.key, c.kind); len(got) > 0 {
				t.Errorf("8.1: Find(%q, %d) of none is %v", c.key, c.kind, got)
			}
		}
	}
}

// 8.1: the facts of a state that may not be are found as well, as they stand.
func TestFindOthers(t *testing.T) {
	odd := api.Fact{Dot: dot(-3, 0), Key: strings.Repeat("k", 99), Kind: 9, Item: "x", N: 3}
	s := state(nil, odd, reg(5, 2, "k", "i"), reg(0, 1, "k", "i"), odd, api.Fact{Key: "k"})
	for _, c := range []struct {
		key  string
		kind int
		want []api.Fact
	}{
		{odd.Key, 0, []api.Fact{odd, odd}},
		{odd.Key, 9, []api.Fact{odd, odd}},
		{odd.Key, 8, nil},
		{"k", 0, []api.Fact{s.Facts[1], s.Facts[2], s.Facts[4]}},
		{"k", api.FReg, []api.Fact{s.Facts[1], s.Facts[2]}},
	} {
		if got := facts.Find(s, c.key, c.kind); !slices.Equal(got, c.want) {
			t.Errorf("8.1: Find(%q, %d) is %v, not %v", c.key, c.kind, got, c.want)
		}
	}
}

// room is how much is behind the end of what guarded tells.
const room = 3

// guarded is a copy of l with room behind its end, which is filled.
func guarded[T any](l []T, fill T) []T {
	return append(slices.Clone(l), slices.Repeat([]T{fill}, room)...)[:len(l)]
}

// guard is s in other memory, guarded.
func guard(s api.State) api.State {
	return api.State{Seen: guarded(s.Seen, api.Run{Dev: 4, From: 44, To: 444}), Facts: guarded(s.Facts, reg(4, 44, "a", "behind"))}
}

// whole tells all of s, with the room behind it.
func whole(s api.State) string {
	return fmt.Sprintf("%v %#v", s.Seen[:len(s.Seen)+room], s.Facts[:len(s.Facts)+room])
}

// spoil writes into all of l, into its spare room too.
func spoil(l []api.Fact) {
	for i := range l[:cap(l)] {
		l[:cap(l)][i] = api.Fact{Dot: dot(-9, -9), Key: "spoilt", Kind: -9, Item: "spoilt", N: -9}
	}
}

// R3: what is handed in stays as it was, behind its end too.
func TestMemory(t *testing.T) {
	l := differing()
	for i, one := range l {
		a, b := guard(one), guard(l[(i+1)%len(l)])
		beforeA, beforeB := whole(a), whole(b)
		facts.May(a)
		facts.Same(a, b)
		facts.Same(b, a)
		for _, f := range a.Facts {
			facts.Right(f)
		}
		for kind := -1; kind <= 4; kind++ {
			facts.Find(a, "a", kind)
		}
		if whole(a) != beforeA || whole(b) != beforeB {
			t.Errorf("R3: %s turned into %s, %s into %s", beforeA, whole(a), beforeB, whole(b))
		}
	}
}

// R3: what is told shares no memory with what is handed in, nor with what is
// told again: not where all of the facts are told, nor where just the first.
func TestFindMemory(t *testing.T) {
	for _, l := range [][]api.Fact{
		row(0, 1, 1), row(0, 1, 4), row(0, 1, 5),
		{reg(0, 1, "k", "x"), reg(0, 2, "k", "y"), set(0, 3, "a", "x")},
		{set(0, 1, "a", "x"), reg(0, 2, "k", "x"), reg(0, 3, "k", "y")},
		{set(0, 1, "k", "x"), set(0, 2, "k", "y"), reg(0, 3, "k", "x")},
		{reg(0, 1, "a", "x"), reg(0, 2, "a", "y")},
	} {
		for kind := range 4 {
			s := guard(state(runs(0, 1, 9), l...))
			before := whole(s)
			first, second := facts.Find(s, "k", kind), facts.Find(s, "k", kind)
			want := slices.Clone(second)
			_ = append(first, reg(9, 9, "appended", ""))
			spoil(first)
			if whole(s) != before {
				t.Errorf("R3: Find of kind %d shares memory with %s: %s", kind, before, whole(s))
			}
			if !slices.Equal(second, want) {
				t.Errorf("R3: two answers of Find of kind %d share memory", kind)
			}
			spoil(s.Facts)
			if !slices.Equal(second, want) {
				t.Errorf("R3: Find of kind %d keeps what it was handed", kind)
			}
		}
	}
}

// R5: the same calls tell the same, whatever was called in between.
func TestAgain(t *testing.T) {
	s := state(runs(0, 1, 9), reg(0, 1, "a", "x"), set(0, 2, "a", "y"), count(0, 3, "b", 1))
	say := func() string {
		return fmt.Sprint(facts.May(s), facts.Same(s, s), facts.Same(s, state(s.Seen)), facts.Find(s, "a", 0), facts.Find(s, "b", api.FCnt), facts.Right(s.Facts[2]), facts.Cmp(dot(0, 1), dot(0, 2)))
	}
	first := say()
	for i := range 20 {
		other := state(runs(i, 1, 2), row(i, i, i)...)
		facts.May(other)
		facts.Same(other, s)
		spoil(facts.Find(other, "k", i))
		spoil(facts.Find(s, "a", 0))
		facts.Cmp(dot(i, 1), dot(1, i))
		if got := say(); got != first {
			t.Fatalf("R5: %s, then %s", first, got)
		}
	}
}

// R1: every call ends, and none panics, whatever it is given; what it is given
// stays as it was.
func TestOthers(t *testing.T) {
	r := rand.New(rand.NewSource(8))
	edges := []int{math.MinInt, math.MinInt + 1, -maxUnit - 1, -maxUnit, -1, 0, 1, 2, 3, 4, 7, 8, maxUnit, maxUnit + 1, maxDot, maxDot + 1, math.MaxInt - 1, math.MaxInt}
	edge := func() int { return edges[r.Intn(len(edges))] }
	text := func() string { return strings.Repeat("\xfe", []int{0, 1, maxKey, maxKey + 1, maxItem + 1}[r.Intn(5)]) }
	others := func() api.State {
		s := api.State{Seen: make([]api.Run, r.Intn(4)), Facts: make([]api.Fact, r.Intn(4))}
		for i := range s.Seen {
			s.Seen[i] = api.Run{Dev: r.Intn(3), From: edge(), To: edge()}
		}
		for i := range s.Facts {
			s.Facts[i] = api.Fact{Dot: dot(edge(), edge()), Key: text(), Kind: edge(), Item: text(), N: edge()}
		}
		return s
	}
	for range 50000 {
		a, b := others(), others()
		was := api.State{Seen: slices.Clone(a.Seen), Facts: slices.Clone(a.Facts)}
		facts.May(a)
		if facts.Same(a, b) != facts.Same(b, a) {
			t.Fatalf("8.1: Same(%#v, %#v) hangs on order", a, b)
		}
		for _, f := range a.Facts {
			facts.Right(f)
			if !slices.Contains(facts.Find(a, f.Key, f.Kind), f) || !slices.Contains(facts.Find(a, f.Key, 0), f) {
				t.Fatalf("8.1: Find has not %#v", f)
			}
			facts.Find(b, f.Key, edge())
			for _, other := range b.Facts {
				if facts.Cmp(f.Dot, other.Dot) != -facts.Cmp(other.Dot, f.Dot) {
					t.Fatalf("8.1: Cmp(%v, %v), both ways", f.Dot, other.Dot)
				}
			}
		}
		if !facts.Same(a, was) {
			t.Fatalf("R3: %#v turned into %#v", was, a)
		}
	}
}

// R1: lists that are longer than any that may be.
func TestLong(t *testing.T) {
	const long = 1 << 18
	var seen []api.Run
	for i := range long {
		seen = append(seen, api.Run{Dev: 0, From: 2*i + 1, To: 2*i + 1})
	}
	var l []api.Fact
	for i := range long {
		l = append(l, reg(0, 2*i+1, "k", ""))
	}
	s := state(seen, l...)
	if facts.May(s) || !facts.May(state(seen, l[:maxFacts]...)) || !facts.May(state(seen, l[long-maxFacts:]...)) || facts.May(state(seen, reg(0, 2*long, "k", ""))) {
		t.Error("8.1: May of long lists")
	}
	if !facts.Same(s, state(slices.Clone(seen), slices.Clone(l)...)) || facts.Same(s, state(seen, l[1:]...)) {
		t.Error("8.1: Same of long lists")
	}
	if !slices.Equal(facts.Find(s, "k", 0), l) || len(facts.Find(s, "k", api.FSet)) > 0 {
		t.Error("8.1: Find of long lists")
	}
}

// scattered is a state by bytes: four of x are a fact, three of y a run. Neither
// need be right.
func scattered(x, y []byte) api.State {
	var s api.State
	for i := 0; i+2 < len(y); i += 3 {
		s.Seen = append(s.Seen, api.Run{Dev: int(y[i] % 9), From: int(y[i+1] % 10), To: int(y[i+2] % 10)})
	}
	for i := 0; i+3 < len(x); i += 4 {
		f := api.Fact{Dot: dot(int(x[i]%9), int(x[i+1]%10)), Key: string('a' + rune(x[i+2]%3)), Kind: int(x[i+3] % 5)}
		switch x[i+3] / 5 % 4 {
		case 0:
			f.Item = string('x' + rune(x[i+2]/3%2))
		case 1:
			f.N = int(x[i+2]) - 128
		}
		s.Facts = append(s.Facts, f)
	}
	return s
}

// 8.1, held against a slow way.
func FuzzStates(f *testing.F) {
	f.Add([]byte{}, []byte{})
	f.Add([]byte{0, 1, 0, 1, 0, 2, 1, 2}, []byte{0, 1, 5})
	f.Add([]byte{0, 1, 0, 1, 7, 9, 1, 8, 1, 1, 1, 1}, []byte{0, 1, 5, 1, 1, 1, 7, 8, 9})
	f.Fuzz(func(t *testing.T, x, y []byte) {
		s := scattered(x, y)
		if got := facts.May(s); got != slowMay(s) {
			t.Errorf("8.1: May(%v) is %v", s, got)
		}
		for _, key := range []string{"a", "b", "c", "", "ab"} {
			for kind := range 6 {
				want := slices.DeleteFunc(slices.Clone(s.Facts), func(f api.Fact) bool { return f.Key != key || kind != 0 && f.Kind != kind })
				if got := facts.Find(s, key, kind); !slices.Equal(got, want) {
					t.Errorf("8.1: Find(%v, %q, %d) is %v", s, key, kind, got)
				}
			}
		}
		if !facts.Same(s, scattered(x, y)) {
			t.Errorf("8.1: %v is not the same as itself", s)
		}
		for i := range s.Facts {
			other := scattered(x, y)
			other.Facts[i].N++
			if facts.Same(s, other) {
				t.Errorf("8.1: %v is the same as %v", s, other)
			}
		}
	})
}

func BenchmarkStates(b *testing.B) {
	for _, n := range []int{1, 20, maxFacts} {
		s := state(runs(3, 1, n), row(3, 1, n)...)
		other := state(slices.Clone(s.Seen), slices.Clone(s.Facts)...)
		for _, c := range []struct {
			name string
			call func()
		}{
			{"May", func() { facts.May(s) }},
			{"Same", func() { facts.Same(s, other) }},
			{"Find", func() { facts.Find(s, "k", 0) }},
		} {
			b.Run(fmt.Sprint(c.name, "/", n), func(b *testing.B) {
				for b.Loop() {
					c.call()
				}
			})
		}
	}
}
