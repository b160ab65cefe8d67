package join_test

import (
	"fmt"
	"math"
	"math/rand"
	"slices"
	"strings"
	"testing"

	"deaddrop/api"
	"deaddrop/dots"
	"deaddrop/facts"
	"deaddrop/join"
)

const (
	devs     = 8
	maxDot   = 1 << 52
	maxFacts = 400
)

// runs are Dev, From, To; Dev, From, To; and so on.
func runs(n ...int) []api.Run {
	var l []api.Run
	for i := 0; i+2 < len(n); i += 3 {
		l = append(l, api.Run{Dev: n[i], From: n[i+1], To: n[i+2]})
	}
	return l
}

func dot(dev, n int) api.Dot {
	return api.Dot{Dev: dev, N: n}
}

func reg(dev, n int, key, text string) api.Fact {
	return api.Fact{Dot: dot(dev, n), Key: key, Kind: api.FReg, Item: text}
}

func set(dev, n int, key, member string) api.Fact {
	return api.Fact{Dot: dot(dev, n), Key: key, Kind: api.FSet, Item: member}
}

func count(dev, n int, key string, counted int) api.Fact {
	return api.Fact{Dot: dot(dev, n), Key: key, Kind: api.FCnt, N: counted}
}

func state(seen []api.Run, l ...api.Fact) api.State {
	return api.State{Seen: seen, Facts: l}
}

// row are n facts of dev, by dots side by side.
func row(dev, from, n int) []api.Fact {
	l := make([]api.Fact, n)
	for i := range l {
		l[i] = reg(dev, from+i, "k", "")
	}
	return l
}

// What a state may have of a dot.
const (
	unseen = iota
	gone   // seen, without a fact
	one    // a fact
	other  // another fact
	kinds
)

// joined is what becomes of a dot, by what a has of it, and b, as the words of
// 9.1 say it.
func joined(a, b int) int {
	switch [2]int{min(a, one), min(b, one)} {
	case [2]int{unseen, unseen}:
		return unseen
	case [2]int{one, one}, [2]int{one, unseen}:
		return a
	case [2]int{unseen, one}:
		return b
	}
	return gone
}

// A field is some dots, in order; of it states are made by what they have of
// each.
type field []api.Dot

// of is the state that has this of the dots.
func (f field) of(has []int) api.State {
	var s api.State
	for i, d := range f {
		fact := [kinds]api.Fact{one: set(d.Dev, d.N, "k", "one"), other: count(d.Dev, d.N, "other", i)}
		if has[i] >= one {
			s.Facts = append(s.Facts, fact[has[i]])
		}
		if has[i] == unseen {
			continue
		}
		last := len(s.Seen) - 1
		if last >= 0 && s.Seen[last].Dev == d.Dev && s.Seen[last].To+1 == d.N {
			s.Seen[last].To = d.N
		} else {
			s.Seen = append(s.Seen, api.Run{Dev: d.Dev, From: d.N, To: d.N})
		}
	}
	return s
}

// all are all that states may have of n dots, each of them up to below most.
func all(n, most int) [][]int {
	out := [][]int{nil}
	for range n {
		var next [][]int
		for _, has := range out {
			for what := range most {
				next = append(next, append(slices.Clone(has), what))
			}
		}
		out = next
	}
	return out
}

// slowJoin is what comes of a and b, dot by dot.
func slowJoin(a, b []int) []int {
	out := make([]int, len(a))
	for i := range a {
		out[i] = joined(a[i], b[i])
	}
	return out
}

// slowAll joins these one by one.
func slowAll(n int, l ...[]int) []int {
	out := make([]int, n)
	for _, has := range l {
		out = slowJoin(out, has)
	}
	return out
}

// some is what a state may have of n dots.
func some(r *rand.Rand, n, most int) []int {
	has := make([]int, n)
	for i := range has {
		has[i] = r.Intn(most)
	}
	return has
}

// fields are of dots side by side and apart, of one device and of some, at the
// lowest dots and the greatest.
func fields() []field {
	return []field{
		{dot(0, 1), dot(0, 2), dot(0, 3), dot(0, 4)},
		{dot(0, 1), dot(0, 3), dot(0, 4), dot(0, 6)},
		{dot(0, 1), dot(1, 1), dot(1, 2), dot(7, 1)},
		{dot(0, maxDot), dot(1, 1), dot(devs-1, maxDot-1), dot(devs-1, maxDot)},
		{dot(2, 9), dot(2, 10), dot(3, 8), dot(3, 1<<32)},
	}
}

// told tells the test that what a call told is want, and may be, but for how
// many facts it has.
func told(t *testing.T, what string, got, want api.State) {
	t.Helper()
	if !slices.Equal(got.Seen, want.Seen) || !slices.Equal(got.Facts, want.Facts) {
		t.Errorf("%s is %v, not %v", what, got, want)
	}
	if !dots.May(got.Seen) {
		t.Errorf("%s has seen %v, which may not be", what, got.Seen)
	}
	for i, f := range got.Facts {
		if !dots.Has(got.Seen, f.Dot) || i > 0 && facts.Cmp(got.Facts[i-1].Dot, f.Dot) >= 0 {
			t.Errorf("%s has %v, in no right place", what, f)
		}
	}
}

// 9.1: all states that the tests hold answers against may be.
func TestFields(t *testing.T) {
	for _, f := range fields() {
		for _, has := range all(len(f), kinds) {
			if !facts.May(f.of(has)) {
				t.Fatalf("8.1: May(%v) is false", f.of(has))
			}
		}
	}
}

// 9.1: what becomes of a fact, by who has one of its dot, and who has seen it.
func TestFates(t *testing.T) {
	a, b := reg(3, 5, "k", "a's"), set(3, 5, "other", "b's")
	wide := runs(0, 1, 9, 3, 2, 7, 5, 1, 1)
	for _, c := range []struct {
		name string
		a, b api.State
		want []api.Fact
	}{
		{"both, the same", state(runs(3, 5, 5), a), state(runs(3, 5, 5), a), []api.Fact{a}},
		{"both, a's and b's", state(runs(3, 5, 5), a), state(runs(3, 5, 5), b), []api.Fact{a}},
		{"both, b's and a's", state(runs(3, 5, 5), b), state(runs(3, 5, 5), a), []api.Fact{b}},
		{"both, of wide runs", state(wide, a), state(wide, b), []api.Fact{a}},
		{"both, a's run is wide", state(wide, a), state(runs(3, 5, 5), b), []api.Fact{a}},
		{"both, b's run is wide", state(runs(3, 5, 5), a), state(wide, b), []api.Fact{a}},

		{"a's alone, b has seen nothing", state(runs(3, 5, 5), a), state(nil), []api.Fact{a}},
		{"a's alone, b has seen the dot ahead", state(runs(3, 5, 5), a), state(runs(3, 1, 4)), []api.Fact{a}},
		{"a's alone, b has seen the dot behind", state(runs(3, 5, 5), a), state(runs(3, 6, maxDot)), []api.Fact{a}},
		{"a's alone, b has seen both sides of it", state(runs(3, 5, 5), a), state(runs(3, 1, 4, 3, 6, 9)), []api.Fact{a}},
		{"a's alone, b has seen other devices", state(runs(3, 5, 5), a), state(runs(2, 1, 9, 4, 5, 5)), []api.Fact{a}},
		{"a's alone, b has seen it", state(runs(3, 5, 5), a), state(runs(3, 5, 5)), nil},
		{"a's alone, b has seen it at a run's beginning", state(runs(3, 5, 5), a), state(runs(3, 5, 9)), nil},
		{"a's alone, b has seen it in a run", state(runs(3, 5, 5), a), state(wide), nil},
		{"a's alone, b has seen it at a run's end", state(runs(3, 5, 5), a), state(runs(3, 1, 1, 3, 3, 5)), nil},

		{"b's alone, a has seen nothing", state(nil), state(runs(3, 5, 5), b), []api.Fact{b}},
		{"b's alone, a has seen the dot ahead", state(runs(3, 1, 4)), state(runs(3, 5, 5), b), []api.Fact{b}},
		{"b's alone, a has seen the dot behind", state(runs(3, 6, maxDot)), state(runs(3, 5, 5), b), []api.Fact{b}},
		{"b's alone, a has seen both sides of it", state(runs(3, 1, 4, 3, 6, 9)), state(runs(3, 5, 5), b), []api.Fact{b}},
		{"b's alone, a has seen other devices", state(runs(2, 1, 9, 4, 5, 5)), state(runs(3, 5, 5), b), []api.Fact{b}},
		{"b's alone, a has seen it", state(runs(3, 5, 5)), state(runs(3, 5, 5), b), nil},
		{"b's alone, a has seen it at a run's beginning", state(runs(3, 5, 9)), state(runs(3, 5, 5), b), nil},
		{"b's alone, a has seen it in a run", state(wide), state(runs(3, 5, 5), b), nil},
		{"b's alone, a has seen it at a run's end", state(runs(3, 1, 1, 3, 3, 5)), state(runs(3, 5, 5), b), nil},
	} {
		if !facts.May(c.a) || !facts.May(c.b) {
			t.Fatalf("8.1: May of %s is false", c.name)
		}
		if got := join.Join(c.a, c.b); !slices.Equal(got.Facts, c.want) {
			t.Errorf("9.1: %s: %v stay, not %v", c.name, got.Facts, c.want)
		}
	}
}

// 9.1: of facts of one dot that differ, in one field or in all, a's stays, with
// others around it.
func TestDiffer(t *testing.T) {
	l := []api.Fact{
		reg(0, 2, "k", "i"), reg(0, 2, "k", "j"), reg(0, 2, "l", "i"), reg(0, 2, "", ""), set(0, 2, "k", "i"), set(0, 2, "k", ""),
		count(0, 2, "k", 0), count(0, 2, "k", 5), count(0, 2, "k", -5), count(0, 2, "z", 1<<40),
	}
	ahead, behind := reg(0, 1, "a", "ahead"), reg(0, 3, "b", "behind")
	seen := runs(0, 1, 3)
	for _, a := range l {
		for _, b := range l {
			told(t, "9.1: Join, of one dot alone", join.Join(state(runs(0, 2, 2), a), state(runs(0, 2, 2), b)), state(runs(0, 2, 2), a))
			told(t, "9.1: Join, of one among b's", join.Join(state(runs(0, 2, 2), a), state(seen, ahead, b, behind)), state(seen, ahead, a, behind))
			told(t, "9.1: Join, of one among a's", join.Join(state(seen, ahead, a, behind), state(runs(0, 2, 2), b)), state(seen, ahead, a, behind))
			told(t, "9.1: All, of one dot", join.All(state(runs(0, 2, 2), a), state(runs(0, 2, 2), b), state(seen, ahead, b)), state(seen, ahead, a))
			if !join.Le(state(runs(0, 2, 2), a), state(runs(0, 2, 2), b)) {
				t.Errorf("9.1: Le of %v, %v is false: b's stays", a, b)
			}
		}
	}
}

// 9.1: what either has seen: nothing, the same, runs that lie over each other,
// in each other, side by side, and apart.
func TestSeen(t *testing.T) {
	for _, c := range []struct{ a, b, want []int }{
		{nil, nil, nil},
		{[]int{0, 1, 5}, nil, []int{0, 1, 5}},
		{[]int{0, 1, 5}, []int{0, 1, 5}, []int{0, 1, 5}},
		{[]int{0, 1, 5}, []int{0, 3, 9}, []int{0, 1, 9}},
		{[]int{0, 1, 5}, []int{0, 5, 9}, []int{0, 1, 9}},
		{[]int{0, 1, 5}, []int{0, 6, 9}, []int{0, 1, 9}},
		{[]int{0, 1, 5}, []int{0, 7, 9}, []int{0, 1, 5, 0, 7, 9}},
		{[]int{0, 1, 9}, []int{0, 3, 5}, []int{0, 1, 9}},
		{[]int{0, 1, 2, 0, 4, 5}, []int{0, 3, 3}, []int{0, 1, 5}},
		{[]int{0, 1, 2, 0, 8, 9}, []int{0, 4, 5}, []int{0, 1, 2, 0, 4, 5, 0, 8, 9}},
		{[]int{0, 1, 2, 0, 5, 6, 0, 9, 9}, []int{0, 2, 8}, []int{0, 1, 9}},
		{[]int{0, 1, 5}, []int{1, 6, 9}, []int{0, 1, 5, 1, 6, 9}},
		{[]int{0, 1, 5, 7, 1, 5}, []int{3, 1, 5}, []int{0, 1, 5, 3, 1, 5, 7, 1, 5}},
		{[]int{7, 1, maxDot - 1}, []int{7, maxDot, maxDot}, []int{7, 1, maxDot}},
		{[]int{0, 1, maxDot, 7, 1, maxDot}, []int{0, maxDot, maxDot, 6, 2, 2}, []int{0, 1, maxDot, 6, 2, 2, 7, 1, maxDot}},
	} {
		a, b := state(runs(c.a...)), state(runs(c.b...))
		told(t, fmt.Sprint("9.1: Join", a, b), join.Join(a, b), state(runs(c.want...)))
		told(t, fmt.Sprint("9.1: Join", b, a), join.Join(b, a), state(runs(c.want...)))
		told(t, fmt.Sprint("9.1: All", b, a), join.All(b, a), state(runs(c.want...)))
	}
}

// whole are states of any kind of fact, with runs and facts of some devices.
func whole() []api.State {
	l := []api.Fact{reg(0, 1, "a", "x"), set(0, 3, "a", "y"), count(2, 5, "b", -7), reg(7, maxDot, "c", "")}
	return []api.State{
		{}, state(runs(0, 1, 1)), state(runs(0, 1, maxDot, 7, 1, maxDot)), state(runs(0, 1, 1), l[0]), state(runs(0, 1, 3), l[:2]...),
		state(runs(0, 1, 3, 2, 4, 6, 7, maxDot, maxDot), l...), state(runs(0, 1, 1, 0, 3, 9, 2, 5, 5, 7, 1, maxDot), l...),
		state(runs(5, 3, maxFacts+2), row(5, 3, maxFacts)...),
	}
}

// 9.1: a state with nothing, and with itself, is what it was.
func TestAlone(t *testing.T) {
	for _, s := range whole() {
		if !facts.May(s) {
			t.Fatalf("8.1: May(%v) is false", s)
		}
		for _, none := range []api.State{{}, {Seen: []api.Run{}, Facts: []api.Fact{}}, state(s.Seen[:0], s.Facts[:0]...)} {
			told(t, "9.1: Join with nothing", join.Join(s, none), s)
			told(t, "9.1: Join of nothing", join.Join(none, s), s)
			if !join.Le(none, s) || join.Le(s, none) != (len(s.Seen) == 0) {
				t.Errorf("9.1: Le of nothing and %v, or of it and nothing", s)
			}
			told(t, "9.1: All of it among nothings", join.All(none, s, none), s)
		}
		told(t, "9.2: Join with itself", join.Join(s, s), s)
		told(t, "9.1: All of it", join.All(s), s)
		told(t, "9.2: All of it, often", join.All(s, s, s, s, s), s)
		if !join.Le(s, s) {
			t.Errorf("9.1: Le of %v and itself is false", s)
		}
		// What was seen is known, also where nothing is left of it.
		told(t, "9.1: Join with its Seen alone", join.Join(s, state(s.Seen)), state(s.Seen))
		told(t, "9.1: Join of its Seen alone", join.Join(state(s.Seen), s), state(s.Seen))
	}
}

// 9.1: facts of dots where a's and b's stand in turn, in each way that they may.
func TestTurns(t *testing.T) {
	all := slices.Concat(row(0, 1, 3), row(1, 1, 2), row(1, maxDot-1, 2), row(7, 4, 3))
	for mask := range 1 << len(all) {
		var one, two []api.Dot
		var a, b api.State
		for i, f := range all {
			if mask>>i&1 == 0 {
				a.Facts, one = append(a.Facts, f), append(one, f.Dot)
			} else {
				b.Facts, two = append(b.Facts, f), append(two, f.Dot)
			}
		}
		a.Seen, b.Seen = dots.Of(one...), dots.Of(two...)
		want := state(runs(0, 1, 3, 1, 1, 2, 1, maxDot-1, maxDot, 7, 4, 6), all...)
		told(t, fmt.Sprint("9.1: Join", a, b), join.Join(a, b), want)
		if t.Failed() {
			return
		}
	}
}

// 9.1: more than MaxFacts facts together: all of them stay.
func TestMany(t *testing.T) {
	seen := runs(2, 1, maxFacts)
	a := state(seen, row(2, 1, maxFacts)...)
	for _, c := range []struct {
		b     api.State
		facts int
	}{
		{state(runs(2, maxFacts+1, maxFacts+1), row(2, maxFacts+1, 1)...), maxFacts + 1},
		{state(runs(0, 7, 7), row(0, 7, 1)...), maxFacts + 1},
		{state(runs(2, maxFacts+1, 2*maxFacts), row(2, maxFacts+1, maxFacts)...), 2 * maxFacts},
		{state(runs(0, 1, maxFacts), row(0, 1, maxFacts)...), 2 * maxFacts},
		{state(runs(7, 1, maxFacts), row(7, 1, maxFacts)...), 2 * maxFacts},
		{state(runs(2, 201, maxFacts+200), row(2, 201, maxFacts)...), maxFacts + 200},
		{state(runs(2, 2, maxFacts+1), row(2, 2, maxFacts)...), maxFacts + 1},
		{a, maxFacts},
		{state(runs(2, 1, 2*maxFacts), row(2, maxFacts+1, maxFacts)...), maxFacts},
	} {
		if !facts.May(a) || !facts.May(c.b) {
			t.Fatal("8.1: May is false")
		}
		var want api.State
		want.Seen = dots.Union(seen, c.b.Seen)
		for _, f := range append(slices.Clone(a.Facts), c.b.Facts...) {
			gone := dots.Has(c.b.Seen, f.Dot) && !slices.Contains(c.b.Facts, f)
			if !gone && !slices.Contains(want.Facts, f) {
				want.Facts = append(want.Facts, f)
			}
		}
		slices.SortFunc(want.Facts, func(f, g api.Fact) int { return facts.Cmp(f.Dot, g.Dot) })
		if len(want.Facts) != c.facts {
			t.Fatalf("%d facts are wanted, not %d", len(want.Facts), c.facts)
		}
		told(t, "9.1: Join of many", join.Join(a, c.b), want)
		told(t, "9.1: Join of many, changed", join.Join(c.b, a), want)
		told(t, "9.1: All of many", join.All(a, c.b, a), want)
		if join.Le(a, c.b) != facts.Same(want, c.b) || join.Le(c.b, a) != facts.Same(want, a) {
			t.Errorf("9.1: Le of many is %v, changed %v", join.Le(a, c.b), join.Le(c.b, a))
		}
	}
}

// 9.1: more than MaxFacts on the way, and few in the end.
func TestManyBetween(t *testing.T) {
	var l []api.State
	var want api.State
	for dev := range devs {
		l = append(l, state(runs(dev, 1, maxFacts), row(dev, 1, maxFacts)...))
		want.Seen = append(want.Seen, api.Run{Dev: dev, From: 1, To: maxFacts + 1})
		want.Facts = append(want.Facts, reg(dev, maxFacts+1, "k", "new"))
	}
	last := append(slices.Clone(l), want)
	told(t, "9.1: All, of which the last has seen all", join.All(last...), want)
	slices.Reverse(last)
	told(t, "9.1: All, of which the first has seen all", join.All(last...), want)
	got := join.All(l...)
	if len(got.Facts) != devs*maxFacts {
		t.Errorf("9.1: All of %d facts has %d", devs*maxFacts, len(got.Facts))
	}
	told(t, "9.1: Join of far too many, and one that has seen all", join.Join(got, want), want)
	told(t, "9.1: Join, changed", join.Join(want, got), want)
}

// 9.1: Join and Le of all pairs of states of a few dots, dot by dot.
func TestPairs(t *testing.T) {
	for _, f := range fields() {
		has := all(len(f), kinds)
		var l []api.State
		for _, h := range has {
			l = append(l, f.of(h))
		}
		for i, a := range l {
			for j, b := range l {
				want := slowJoin(has[i], has[j])
				got := join.Join(a, b)
				if wanted := f.of(want); !slices.Equal(got.Seen, wanted.Seen) || !slices.Equal(got.Facts, wanted.Facts) {
					t.Fatalf("9.1: Join(%v, %v) is %v, not %v", a, b, got, wanted)
				}
				if got := join.Le(b, a); got != slices.Equal(want, has[i]) {
					t.Fatalf("9.1: Le(%v, %v) is %v", b, a, got)
				}
			}
		}
	}
}

// 9.1: Le, both ways.
func TestLe(t *testing.T) {
	a1, a2, b1 := reg(0, 1, "k", "a1"), set(0, 2, "k", "a2"), count(1, 1, "k", 1)
	for _, c := range []struct {
		name     string
		a, b     api.State
		le, back bool
	}{
		{"nothing, nothing", api.State{}, state([]api.Run{}, []api.Fact{}...), true, true},
		{"one state", state(runs(0, 1, 1), a1), state(runs(0, 1, 1), a1), true, true},
		{"nothing, a fact", state(nil), state(runs(0, 1, 1), a1), true, false},
		{"nothing, what was seen", state(nil), state(runs(0, 1, 1)), true, false},
		{"Seen alone, less", state(runs(0, 1, 3)), state(runs(0, 1, 4)), true, false},
		{"Seen alone, fewer runs", state(runs(0, 1, 3)), state(runs(0, 1, 3, 5, 1, 1)), true, false},
		{"Seen alone, a gap", state(runs(0, 1, 1, 0, 3, 3)), state(runs(0, 1, 3)), true, false},
		{"Seen alone, neither", state(runs(0, 1, 3)), state(runs(0, 2, 4)), false, false},
		{"Seen alone, other devices", state(runs(0, 1, 3)), state(runs(1, 1, 3)), false, false},
		{"Seen more, the same fact", state(runs(0, 1, 1), a1), state(runs(0, 1, 2), a1), true, false},
		{"facts alone: one is gone", state(runs(0, 1, 2), a1, a2), state(runs(0, 1, 2), a1), true, false},
		{"facts alone: all are gone", state(runs(0, 1, 2), a1, a2), state(runs(0, 1, 2)), true, false},
		{"facts alone: in each another is gone", state(runs(0, 1, 2), a1), state(runs(0, 1, 2), a2), false, false},
		{"facts alone: of one dot others", state(runs(0, 1, 1), a1), state(runs(0, 1, 1), reg(0, 1, "k", "other")), true, true},
		{"of one dot others, and more seen", state(runs(0, 1, 1), a1), state(runs(0, 1, 2), count(0, 1, "l", 3)), true, false},
		{"one more fact", state(runs(0, 1, 1), a1), state(runs(0, 1, 2), a1, a2), true, false},
		{"one more fact, the other is gone", state(runs(0, 1, 1), a1), state(runs(0, 1, 2), a2), true, false},
		{"other deeds", state(runs(0, 1, 1), a1), state(runs(1, 1, 1), b1), false, false},
		{"both have one that the other has not", state(runs(0, 1, 2), a1, a2), state(runs(0, 1, 1, 1, 1, 1), a1, b1), false, false},
		{"less seen, but a fact gone", state(runs(0, 1, 1)), state(runs(0, 1, 2), a1, a2), false, false},
		{"less seen, of that all gone", state(runs(0, 1, 1)), state(runs(0, 1, 2), a2), true, false},
		{"the greatest dot", state(runs(7, 1, maxDot-1)), state(runs(7, 1, maxDot), reg(7, maxDot, "", "")), true, false},
		{"the greatest dot's fact", state(runs(7, 1, maxDot), reg(7, maxDot, "", "")), state(runs(7, 1, maxDot)), true, false},
	} {
		if !facts.May(c.a) || !facts.May(c.b) {
			t.Fatalf("8.1: May of %s is false", c.name)
		}
		if got := join.Le(c.a, c.b); got != c.le {
			t.Errorf("9.1: Le of %s is %v", c.name, got)
		}
		if got := join.Le(c.b, c.a); got != c.back {
			t.Errorf("9.1: Le of %s, changed, is %v", c.name, got)
		}
	}
}

// 9.1: All of none, one, two, three and more.
func TestAll(t *testing.T) {
	a, b, c := state(runs(0, 1, 1), reg(0, 1, "k", "a")), state(runs(0, 1, 2), set(0, 2, "k", "b")), state(runs(0, 1, 1, 4, 1, 2), reg(0, 1, "k", "c"), count(4, 2, "k", 5))
	for _, l := range []struct {
		l    []api.State
		want api.State
	}{
		{nil, api.State{}},
		{[]api.State{}, api.State{}},
		{[]api.State{{}}, api.State{}},
		{[]api.State{a}, a},
		{[]api.State{c}, c},
		{[]api.State{a, b}, b},
		{[]api.State{b, a}, b},
		{[]api.State{a, c}, state(c.Seen, a.Facts[0], c.Facts[1])},
		{[]api.State{c, a}, c},
		{[]api.State{a, {}, c}, state(c.Seen, a.Facts[0], c.Facts[1])},
		{[]api.State{{}, c, a}, c},
		{[]api.State{a, b, c}, state(runs(0, 1, 2, 4, 1, 2), b.Facts[0], c.Facts[1])},
		{[]api.State{c, b, a}, state(runs(0, 1, 2, 4, 1, 2), b.Facts[0], c.Facts[1])},
		{[]api.State{a, c, a, c}, state(c.Seen, a.Facts[0], c.Facts[1])},
		{[]api.State{c, a, c, a, c}, c},
		{[]api.State{a, c, state(runs(4, 2, 2)), a, c}, state(c.Seen, a.Facts[0])},
		{[]api.State{c, c, a, state(runs(0, 1, 1)), c, a, state(nil)}, state(c.Seen, c.Facts[1])},
	} {
		told(t, fmt.Sprint("9.1: All", l.l), join.All(l.l...), l.want)
	}
}

// 9.1: All of all three states of three dots, and of up to nine at random, as
// joined one by one: of facts of one dot that differ the first stays.
func TestAllSlow(t *testing.T) {
	f := field{dot(0, 1), dot(0, 2), dot(5, 1)}
	has := all(len(f), kinds)
	for _, x := range has {
		for _, y := range has {
			for _, z := range has {
				got, want := join.All(f.of(x), f.of(y), f.of(z)), f.of(slowAll(len(f), x, y, z))
				if !slices.Equal(got.Seen, want.Seen) || !slices.Equal(got.Facts, want.Facts) {
					t.Fatalf("9.1: All(%v, %v, %v) is %v, not %v", f.of(x), f.of(y), f.of(z), got, want)
				}
			}
		}
	}
	r := rand.New(rand.NewSource(9))
	for _, f := range fields() {
		for range 2000 {
			var has [][]int
			var l []api.State
			for range r.Intn(10) {
				has = append(has, some(r, len(f), kinds))
				l = append(l, f.of(has[len(has)-1]))
			}
			got, fold := join.All(l...), api.State{}
			for _, s := range l {
				fold = join.Join(fold, s)
			}
			told(t, fmt.Sprint("9.1: All", l), got, f.of(slowAll(len(f), has...)))
			told(t, fmt.Sprint("9.1: All", l), got, fold)
			if t.Failed() {
				return
			}
		}
	}
}

// orders are the numbers below n in each order.
func orders(n int) [][]int {
	out := [][]int{nil}
	for i := range n {
		var next [][]int
		for _, l := range out {
			for at := range len(l) + 1 {
				next = append(next, slices.Insert(slices.Clone(l), at, i))
			}
		}
		out = next
	}
	return out
}

// anyWay tells the test that states of which those that have a fact of one dot
// have the same come to one, in each order, with each twice, in pairs first.
func anyWay(t *testing.T, l []api.State) {
	t.Helper()
	want := join.All(l...)
	for _, order := range orders(len(l)) {
		var one, left []api.State
		right := api.State{}
		for _, i := range order {
			one = append(one, l[i])
			right = join.Join(l[i], right)
		}
		told(t, fmt.Sprint("9.2: All in the order ", order), join.All(one...), want)
		told(t, fmt.Sprint("9.2: joined from behind, in the order ", order), right, want)
		told(t, fmt.Sprint("9.2: All twice, in the order ", order), join.All(append(one, one...)...), want)
		for i := range one {
			told(t, fmt.Sprint("9.2: one of it twice, in the order ", order), join.All(append(one, one[i])...), want)
			told(t, fmt.Sprint("9.2: one of it again, in the order ", order), join.Join(want, one[i]), want)
			told(t, fmt.Sprint("9.2: one of it ahead, in the order ", order), join.Join(one[i], want), want)
			if !join.Le(one[i], want) {
				t.Errorf("9.2: Le of %v and what it came to is false", one[i])
			}
		}
		for pair := range slices.Chunk(one, 2) {
			left = append(left, join.All(pair...))
		}
		told(t, fmt.Sprint("9.2: in pairs first, in the order ", order), join.All(left...), want)
	}
}

// 9.2: groups of states, in each order, twice, and in pairs first.
func TestAnyWay(t *testing.T) {
	a1, a2, b1, c1 := reg(0, 1, "k", "a"), count(0, 2, "n", 5), set(1, 1, "s", "b"), reg(7, maxDot, "k", "c")
	anyWay(t, nil)
	anyWay(t, []api.State{state(runs(0, 1, 1), a1), state(runs(0, 1, 1)), state(runs(0, 1, 2), a2)})
	anyWay(t, []api.State{
		state(runs(0, 1, 1), a1), state(runs(0, 2, 2), a2), state(runs(0, 1, 1, 1, 1, 1), b1), state(runs(7, 1, maxDot), c1), state(runs(1, 1, 1, 1, 3, 3), b1),
	})
	anyWay(t, []api.State{
		state(runs(0, 1, 2), a1, a2), state(runs(0, 2, 2)), state(runs(1, 1, 1), b1), state(runs(0, 1, 1, 1, 1, 1, 7, maxDot, maxDot), a1, b1, c1),
	})
	anyWay(t, []api.State{
		state(runs(2, 1, maxFacts), row(2, 1, maxFacts)...), state(runs(2, 300, maxFacts+200), row(2, 400, 101)...),
		state(runs(1, 1, maxFacts), row(1, 1, maxFacts)...), state(runs(1, 200, 300)),
	})
	r := rand.New(rand.NewSource(92))
	for _, f := range fields() {
		for range 20 {
			var l []api.State
			for range 2 + r.Intn(4) {
				l = append(l, f.of(some(r, len(f), other)))
			}
			anyWay(t, l)
		}
		if t.Failed() {
			return
		}
	}
}

// 9.2: all states of three dots without facts that differ: order, how often, and
// what is joined first make no difference.
func TestAnyWayAll(t *testing.T) {
	for _, f := range []field{{dot(0, 1), dot(0, 2), dot(0, 3)}, {dot(0, 2), dot(1, 1), dot(1, 3)}} {
		var l []api.State
		for _, has := range all(len(f), other) {
			l = append(l, f.of(has))
		}
		for _, a := range l {
			for _, b := range l {
				ab := join.Join(a, b)
				if ba := join.Join(b, a); !facts.Same(ab, ba) {
					t.Fatalf("9.2: Join(%v, %v) is %v, changed %v", a, b, ab, ba)
				}
				if again := join.Join(ab, b); !facts.Same(ab, again) {
					t.Fatalf("9.2: Join(%v, %v) is %v, again %v", a, b, ab, again)
				}
				for _, c := range l {
					if x, y := join.Join(ab, c), join.Join(a, join.Join(b, c)); !facts.Same(x, y) {
						t.Fatalf("9.2: of %v, %v, %v come %v and %v", a, b, c, x, y)
					}
				}
			}
		}
	}
}

// room is how much is behind the end of what guarded tells.
const room = 3

// guarded is a copy of l with room behind its end, which is filled.
func guarded[T any](l []T, fill T) []T {
	return append(slices.Clone(l), slices.Repeat([]T{fill}, room)...)[:len(l)]
}

// guard is s in other memory, guarded.
func guard(s api.State) api.State {
	return api.State{Seen: guarded(s.Seen, api.Run{Dev: 4, From: 44, To: 444}), Facts: guarded(s.Facts, reg(4, 44, "a", "behind"))}
}

// shown tells all of s, with the room behind it.
func shown(s api.State) string {
	return fmt.Sprintf("%v %#v", s.Seen[:len(s.Seen)+room], s.Facts[:len(s.Facts)+room])
}

// spoil writes into all of s, into its spare room too, and behind it.
func spoil(s api.State) {
	_ = append(s.Seen, api.Run{Dev: -9, From: -9, To: -9})
	_ = append(s.Facts, reg(-9, -9, "appended", ""))
	for i := range s.Seen[:cap(s.Seen)] {
		s.Seen[:cap(s.Seen)][i] = api.Run{Dev: -9, From: -9, To: -9}
	}
	for i := range s.Facts[:cap(s.Facts)] {
		s.Facts[:cap(s.Facts)][i] = api.Fact{Dot: dot(-9, -9), Key: "spoilt", Kind: -9, Item: "spoilt", N: -9}
	}
}

// calls are the ways to join two states.
func calls(a, b api.State) map[string]func() api.State {
	return map[string]func() api.State{
		"Join of both":        func() api.State { return join.Join(a, b) },
		"Join, changed":       func() api.State { return join.Join(b, a) },
		"Join with itself":    func() api.State { return join.Join(a, a) },
		"Join with nothing":   func() api.State { return join.Join(a, api.State{}) },
		"Join of nothing":     func() api.State { return join.Join(api.State{}, a) },
		"Join with its Seen":  func() api.State { return join.Join(a, state(a.Seen)) },
		"All of none":         func() api.State { return join.All() },
		"All of one":          func() api.State { return join.All(a) },
		"All of both":         func() api.State { return join.All(a, b) },
		"All of three":        func() api.State { return join.All(a, b, a) },
		"All with nothing":    func() api.State { return join.All(api.State{}, a, api.State{}) },
		"All of five of both": func() api.State { return join.All(b, a, a, b, b) },
	}
}

// R3: what is handed in stays as it was, behind its end too; what is told shares
// no memory with it, nor with what is told again.
func TestMemory(t *testing.T) {
	for _, x := range whole() {
		for _, y := range whole() {
			a, b := guard(x), guard(y)
			beforeA, beforeB := shown(a), shown(b)
			join.Le(a, b)
			join.Le(b, a)
			for name, call := range calls(a, b) {
				first, second := call(), call()
				want := api.State{Seen: slices.Clone(second.Seen), Facts: slices.Clone(second.Facts)}
				spoil(first)
				if shown(a) != beforeA || shown(b) != beforeB {
					t.Fatalf("R3: %s, and who wrote into it, turned %s into %s, %s into %s", name, beforeA, shown(a), beforeB, shown(b))
				}
				told(t, "R3: what was told twice", second, want)
			}
			told(t, "R3: Join", join.Join(a, b), join.Join(x, y))
		}
	}
}

// R3: what is told is not turned by who writes into what was handed in.
func TestKept(t *testing.T) {
	for _, x := range whole() {
		for _, y := range whole() {
			for name := range calls(x, y) {
				a, b := guard(x), guard(y)
				got := calls(a, b)[name]()
				spoil(a)
				spoil(b)
				told(t, "R3: "+name, got, calls(x, y)[name]())
			}
		}
	}
}

// R3: a list that is handed in for All stays as it was, behind its end too.
func TestAllList(t *testing.T) {
	for n := range 9 {
		var l, was []api.State
		for i := range 12 {
			s := state(runs(i%devs, 1, i+1), row(i%devs, i+1, 1)...)
			l, was = append(l, s), append(was, guard(s))
		}
		want := join.All(was[:n]...)
		got := join.All(l[:n]...)
		told(t, "9.1: All", got, want)
		for i := range l {
			told(t, fmt.Sprintf("R3: the %d-th, All of %d", i, n), l[i], was[i])
		}
		clear(l)
		told(t, "R3: All, its list cleared", got, want)
	}
}

// R5: the same calls tell the same, whatever was called in between.
func TestAgain(t *testing.T) {
	l := whole()
	say := func() string {
		x := fmt.Sprint(join.All(l...), join.Le(l[3], l[4]), join.Le(l[4], l[3]))
		for _, a := range l {
			x += fmt.Sprint(join.Join(a, l[5]))
		}
		return x
	}
	first := say()
	for i := range 20 {
		other := state(runs(i%devs, 1, 9), row(i%devs, 2, i%8)...)
		spoil(join.Join(other, l[5]))
		spoil(join.All(l[i%8], other, other))
		join.Le(other, l[6])
		if got := say(); got != first {
			t.Fatalf("R5: %s, then %s", first, got)
		}
	}
}

// R1: every call ends, and none panics, whatever it is given; what it is given
// stays as it was.
func TestOthers(t *testing.T) {
	r := rand.New(rand.NewSource(9))
	edges := []int{math.MinInt, math.MinInt + 1, -maxDot, -1, 0, 1, 2, 3, 7, 8, maxDot, maxDot + 1, math.MaxInt - 1, math.MaxInt}
	edge := func() int { return edges[r.Intn(len(edges))] }
	others := func() api.State {
		s := api.State{Seen: make([]api.Run, r.Intn(5)), Facts: make([]api.Fact, r.Intn(5))}
		for i := range s.Seen {
			s.Seen[i] = api.Run{Dev: r.Intn(3), From: edge(), To: edge()}
		}
		for i := range s.Facts {
			s.Facts[i] = api.Fact{Dot: dot(edge(), edge()), Key: strings.Repeat("k", r.Intn(2)*99), Kind: edge(), Item: "i", N: edge()}
		}
		return s
	}
	for range 30000 {
		a, b := guard(others()), guard(others())
		beforeA, beforeB := shown(a), shown(b)
		join.Join(a, b)
		join.Le(a, b)
		join.All(a, b, a)
		join.Join(join.Join(b, a), join.All(a, b, b, a, b))
		if shown(a) != beforeA || shown(b) != beforeB {
			t.Fatalf("R3: %s turned into %s, %s into %s", beforeA, shown(a), beforeB, shown(b))
		}
	}
}

// R1: many runs and facts, and many states: each call ends, and soon.
func TestLong(t *testing.T) {
	const long = 1 << 16
	var odd, even, both api.State
	var alone []api.State
	for i := range long {
		f := reg(3, 4*i+1, "k", "")
		odd.Seen, odd.Facts = append(odd.Seen, api.Run{Dev: 3, From: 4*i + 1, To: 4*i + 1}), append(odd.Facts, f)
		even.Seen = append(even.Seen, api.Run{Dev: 3, From: 4*i + 3, To: 4*i + 3})
		both.Seen = append(both.Seen, odd.Seen[i], even.Seen[i])
		alone = append(alone, state(odd.Seen[i:i+1], f))
	}
	both.Facts = odd.Facts
	if got := join.Join(odd, even); !facts.Same(got, both) {
		t.Error("9.1: Join of long lists")
	}
	if got := join.Join(even, odd); !facts.Same(got, both) {
		t.Error("9.1: Join of long lists, changed")
	}
	if !join.Le(even, both) || !join.Le(odd, both) || join.Le(both, odd) {
		t.Error("9.1: Le of long lists")
	}
	if got := join.All(alone...); !facts.Same(got, odd) {
		t.Error("9.1: All of many")
	}
	slices.Reverse(alone)
	if got := join.All(alone...); !facts.Same(got, odd) {
		t.Error("9.2: All of many, from behind")
	}
}

// 9.1 and 9.2, held against a slow way.
func FuzzJoin(f *testing.F) {
	f.Add([]byte{})
	f.Add([]byte{1, 2, 3, 0, 2, 2})
	f.Add([]byte{27, 228, 99, 180, 255, 170, 85, 12, 201})
	var few field
	for _, dev := range []int{0, 2, devs - 1} {
		for _, n := range []int{1, 2, 3, 5, 6, 9, maxDot - 1, maxDot} {
			few = append(few, dot(dev, n))
		}
	}
	f.Fuzz(func(t *testing.T, x []byte) {
		// Two bits of x are what a state has of a dot, state by state. More than
		// some twenty states find nothing that these do not.
		x = x[:min(len(x), 128)]
		var has [][]int
		var l []api.State
		for begin := 0; begin < len(x); begin += len(few) / 4 {
			h := make([]int, len(few))
			for i := range h {
				if at := begin + i/4; at < len(x) {
					h[i] = int(x[at] >> (i % 4 * 2) & 3)
				}
			}
			has, l = append(has, h), append(l, few.of(h))
		}
		told(t, fmt.Sprint("9.1: All", l), join.All(l...), few.of(slowAll(len(few), has...)))
		for i := 1; i < len(l); i++ {
			want := slowJoin(has[i-1], has[i])
			told(t, fmt.Sprint("9.1: Join", l[i-1], l[i]), join.Join(l[i-1], l[i]), few.of(want))
			if got := join.Le(l[i], l[i-1]); got != slices.Equal(want, has[i-1]) {
				t.Errorf("9.1: Le(%v, %v) is %v", l[i], l[i-1], got)
			}
		}
	})
}

func BenchmarkJoin(b *testing.B) {
	for _, n := range []int{1, 20, maxFacts} {
		s, other := state(runs(3, 1, n), row(3, 1, n)...), state(runs(3, n/2+1, n+n/2), row(3, n+1, n/2)...)
		var l []api.State
		for i := range n {
			l = append(l, state(runs(3, i+1, i+1), row(3, i+1, 1)...))
		}
		for _, c := range []struct {
			name string
			call func()
		}{
			{"Join", func() { join.Join(s, other) }},
			{"Le", func() { join.Le(s, other) }},
			{"All", func() { join.All(l...) }},
		} {
			b.Run(fmt.Sprint(c.name, "/", n), func(b *testing.B) {
				for b.Loop() {
					c.call()
				}
			})
		}
	}
}
