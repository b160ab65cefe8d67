package buffer_test

import (
	"fmt"
	"math"
	"math/rand"
	"slices"
	"testing"

	"deaddrop/api"
	"deaddrop/buffer"
	"deaddrop/facts"
	"deaddrop/join"
	"deaddrop/mutate"
)

const (
	devs     = 8
	maxDot   = 1 << 52
	maxFacts = 400
	// The greatest number that the first of a buffer may have.
	maxFirst = 1 << 52
)

// runs are Dev, From, To; Dev, From, To; and so on.
func runs(n ...int) []api.Run {
	var l []api.Run
	for i := 0; i+2 < len(n); i += 3 {
		l = append(l, api.Run{Dev: n[i], From: n[i+1], To: n[i+2]})
	}
	return l
}

func dot(dev, n int) api.Dot {
	return api.Dot{Dev: dev, N: n}
}

func reg(dev, n int, key, text string) api.Fact {
	return api.Fact{Dot: dot(dev, n), Key: key, Kind: api.FReg, Item: text}
}

func set(dev, n int, key, member string) api.Fact {
	return api.Fact{Dot: dot(dev, n), Key: key, Kind: api.FSet, Item: member}
}

func count(dev, n int, key string, counted int) api.Fact {
	return api.Fact{Dot: dot(dev, n), Key: key, Kind: api.FCnt, N: counted}
}

func state(seen []api.Run, l ...api.Fact) api.State {
	return api.State{Seen: seen, Facts: l}
}

// deed is the n-th delta of a device that sets one register.
func deed(n int) api.State {
	return state(runs(3, n, n), reg(3, n, "k", fmt.Sprint(n)))
}

// deeds are the first n of these.
func deeds(n int) []api.State {
	var l []api.State
	for i := range n {
		l = append(l, deed(i+1))
	}
	return l
}

// holding is a buffer of l, the first of which has this number.
func holding(first int, l ...api.State) api.Buffer {
	return api.Buffer{First: first, L: l}
}

// A delta with its number.
type numbered struct {
	number int
	s      api.State
}

// list are b's deltas with their numbers, as the words of chapter 12 say it.
func list(b api.Buffer) []numbered {
	var l []numbered
	for i, s := range b.L {
		l = append(l, numbered{b.First + i, s})
	}
	return l
}

// slowSince is what Since is to tell of these, as the words of 12.1 say it:
// joined one by one.
func slowSince(first int, l []numbered, n, many int) (api.State, bool) {
	behind := first
	if len(l) > 0 {
		behind = l[len(l)-1].number + 1
	}
	if n < first || n > behind || many < 0 {
		return api.State{}, false
	}
	var s api.State
	for _, one := range l {
		if one.number >= n && many > 0 {
			s, many = join.Join(s, one.s), many-1
		}
	}
	return s, true
}

// slowAck is what Ack is to leave of these, as the words of 12.1 say it.
func slowAck(first int, l []numbered, n int) (int, []numbered) {
	behind := first
	if len(l) > 0 {
		behind = l[len(l)-1].number + 1
	}
	var left []numbered
	for _, one := range l {
		if one.number >= n {
			left = append(left, one)
		}
	}
	switch {
	case n < first:
		return first, left
	case n > behind:
		return behind, left
	}
	return n, left
}

// alike tells whether these are the same deltas in the same order.
func alike(a, b []api.State) bool {
	return slices.EqualFunc(a, b, facts.Same)
}

// deltas are those of l without their numbers.
func deltas(l []numbered) []api.State {
	var out []api.State
	for _, one := range l {
		out = append(out, one.s)
	}
	return out
}

// short is a text with what is too long in it cut.
func short(what any) string {
	text := fmt.Sprint(what)
	if len(text) > 1500 {
		return text[:1500] + ".."
	}
	return text
}

// holds tells the test whether a call told a buffer with this First and these.
func holds(t *testing.T, what string, got api.Buffer, first int, l []api.State) {
	t.Helper()
	if got.First != first || !alike(got.L, l) {
		t.Errorf("12.1: %s is %s, not %d and %s", what, short(got), first, short(l))
	}
}

// tells tells the test whether Since tells this.
func tells(t *testing.T, b api.Buffer, n, many int, want api.State, ok bool) {
	t.Helper()
	got, is := buffer.Since(b, n, many)
	if is != ok || !facts.Same(got, want) {
		t.Errorf("12.1: Since(%s, %d, %d) is %s, %v, not %s, %v", short(b), n, many, short(got), is, short(want), ok)
	}
	// R4: a list that is nothing, not one that has nothing.
	if !is && (got.Seen != nil || got.Facts != nil) {
		t.Errorf("R4: Since(%s, %d, %d) is false beside %#v", short(b), n, many, got)
	}
}

// heldAgainst tells the test whether all calls on b tell what the slow way does.
func heldAgainst(t *testing.T, b api.Buffer, n, many int, s api.State) {
	t.Helper()
	want, ok := slowSince(b.First, list(b), n, many)
	tells(t, b, n, many, want, ok)
	first, left := slowAck(b.First, list(b), n)
	holds(t, fmt.Sprintf("Ack(%s, %d)", short(b), n), buffer.Ack(b, n), first, deltas(left))
	holds(t, fmt.Sprintf("Add(%s, %s)", short(b), short(s)), buffer.Add(b, s), b.First, append(slices.Clone(b.L), s))
}

// firsts are numbers that the first of a buffer may have.
func firsts() []int {
	return []int{0, 1, 2, 7, 1 << 20, 1 << 32, maxFirst - 3, maxFirst - 1, maxFirst}
}

// ends are numbers at the ends of int, and far from all others.
func ends() []int {
	return []int{math.MinInt, math.MinInt + 1, -maxFirst - 1, -maxFirst, math.MinInt32, -1, math.MaxInt32, maxFirst, maxFirst + 100, math.MaxInt - 1, math.MaxInt}
}

// around are numbers around those of b, and the ends of int.
func around(b api.Buffer) []int {
	l := ends()
	for n := b.First - 3; n <= b.First+len(b.L)+3; n++ {
		l = append(l, n)
	}
	return l
}

// counts are how many may be asked of b, and how many may not.
func counts(b api.Buffer) []int {
	l := ends()
	for n := range len(b.L) + 3 {
		l = append(l, n)
	}
	return l
}

// 12.1: Add on an empty buffer: the first one has the number First.
func TestAddFirst(t *testing.T) {
	for _, first := range firsts() {
		for _, empty := range []api.Buffer{{First: first}, {First: first, L: []api.State{}}, {First: first, L: deeds(3)[:0]}} {
			for _, s := range []api.State{deed(1), {}, {Seen: []api.Run{}, Facts: []api.Fact{}}, state(runs(0, 1, 9)), state(runs(7, maxDot, maxDot), count(7, maxDot, "n", -5))} {
				b := buffer.Add(empty, s)
				holds(t, fmt.Sprint("Add to an empty one of ", s), b, first, []api.State{s})
				tells(t, b, first, 1, s, true)
				tells(t, b, first+1, 1, api.State{}, true)
				tells(t, b, first-1, 1, api.State{}, false)
			}
		}
	}
}

// 12.1: Add on a buffer of several: the new one stands behind all others, also
// one that is there already, one that says nothing, and one that comes earlier
// by its dots.
func TestAddBehind(t *testing.T) {
	l := []api.State{deed(2), {}, deed(1), deed(2), state(runs(3, 1, 2)), state(runs(0, 1, 1, 7, 4, 4), set(0, 1, "s", "m"), count(7, 4, "n", 1)), {}, deed(9)}
	for _, first := range firsts() {
		b := holding(first)
		for i, s := range l {
			b = buffer.Add(b, s)
			holds(t, fmt.Sprintf("Add, the %d-th of %v", i, l), b, first, l[:i+1])
			tells(t, b, first+i, 9, s, true)
			tells(t, b, first+i+1, 9, api.State{}, true)
			tells(t, b, first+i+2, 9, api.State{}, false)
		}
		// Behind what Ack left, too.
		holds(t, "Add behind Ack", buffer.Add(buffer.Ack(b, first+5), deed(1)), first+5, append(slices.Clone(l[5:]), deed(1)))
		holds(t, "Add behind Ack of all", buffer.Add(buffer.Ack(b, first+len(l)), deed(4)), first+len(l), []api.State{deed(4)})
	}
}

// 12.1: Since of an empty buffer, from First: the empty state; from any other
// number there is none.
func TestSinceEmpty(t *testing.T) {
	for _, first := range firsts() {
		for _, b := range []api.Buffer{{First: first}, {First: first, L: []api.State{}}, {First: first, L: deeds(3)[:0]}} {
			for _, many := range []int{0, 1, 2, 60, math.MaxInt} {
				tells(t, b, first, many, api.State{}, true)
				for _, n := range append(ends(), first-1, first+1, first+2) {
					tells(t, b, n, many, api.State{}, n == first)
				}
			}
			for _, many := range []int{-1, -2, math.MinInt} {
				tells(t, b, first, many, api.State{}, false)
			}
		}
	}
	tells(t, api.Buffer{}, 0, 0, api.State{}, true)
}

// 12.1: Since of three, from each number, by each count.
func TestSinceEdges(t *testing.T) {
	none := api.State{}
	one := func(from, to int) api.State { return join.All(deeds(3)[from-1 : to]...) }
	for _, first := range firsts() {
		b := holding(first, deeds(3)...)
		for _, c := range []struct {
			n, many int
			want    api.State
			ok      bool
		}{
			{0, 0, none, true}, {0, 1, one(1, 1), true}, {0, 2, one(1, 2), true}, {0, 3, one(1, 3), true}, {0, 4, one(1, 3), true}, {0, math.MaxInt, one(1, 3), true},
			{1, 0, none, true}, {1, 1, one(2, 2), true}, {1, 2, one(2, 3), true}, {1, 3, one(2, 3), true}, {1, 4, one(2, 3), true}, {1, math.MaxInt, one(2, 3), true},
			{2, 0, none, true}, {2, 1, one(3, 3), true}, {2, 2, one(3, 3), true}, {2, 3, one(3, 3), true}, {2, math.MaxInt - 1, one(3, 3), true},
			{3, 0, none, true}, {3, 1, none, true}, {3, 3, none, true}, {3, math.MaxInt, none, true},
			{4, 0, none, false}, {4, 1, none, false}, {4, math.MaxInt, none, false}, {5, 1, none, false},
			{-1, 0, none, false}, {-1, 1, none, false}, {-1, 4, none, false}, {-1, math.MaxInt, none, false}, {-2, 1, none, false}, {-3, 3, none, false},
			{0, -1, none, false}, {1, -1, none, false}, {2, -2, none, false}, {3, -1, none, false}, {4, -1, none, false}, {-1, -1, none, false},
			{0, math.MinInt, none, false}, {1, math.MinInt, none, false}, {3, math.MinInt, none, false}, {4, math.MinInt, none, false}, {-1, math.MinInt, none, false},
		} {
			tells(t, b, first+c.n, c.many, c.want, c.ok)
		}
		for _, n := range ends() {
			inside := first <= n && n <= first+3
			for _, many := range ends() {
				want, _ := slowSince(first, list(b), n, many)
				tells(t, b, n, many, want, inside && many >= 0)
			}
		}
	}
}

// 12.1: Since tells just those that it is asked: whose facts there are says
// which they were.
func TestSinceJust(t *testing.T) {
	const all = 12
	b := holding(100, deeds(all)...)
	for from := range all + 1 {
		for many := range all + 2 {
			got, ok := buffer.Since(b, 100+from, many)
			to := min(all, from+many)
			var want []api.Fact
			for n := from; n < to; n++ {
				want = append(want, reg(3, n+1, "k", fmt.Sprint(n+1)))
			}
			if !ok || !slices.Equal(got.Facts, want) {
				t.Errorf("12.1: Since, from %d, %d of them: %v, %v, not %v", from, many, got.Facts, ok, want)
			}
			if len(want) > 0 && !slices.Equal(got.Seen, runs(3, from+1, to)) {
				t.Errorf("12.1: Since, from %d, %d of them, has seen %v", from, many, got.Seen)
			}
		}
	}
}

// 12.1: All goes in their order: of facts of one dot that differ the first one
// stays; what a later one, or an earlier one, knows to be gone, goes.
func TestSinceOrder(t *testing.T) {
	a, b, c := state(runs(0, 1, 1), reg(0, 1, "k", "a")), state(runs(0, 1, 1), set(0, 1, "k", "b")), state(runs(0, 1, 1, 5, 2, 2), reg(0, 1, "k", "c"), count(5, 2, "n", 7))
	gone := state(runs(0, 1, 1))
	for _, l := range []struct {
		l    []api.State
		want api.State
	}{
		{[]api.State{a, b}, a}, {[]api.State{b, a}, b}, {[]api.State{b, b, a}, b},
		{[]api.State{a, b, c}, state(c.Seen, a.Facts[0], c.Facts[1])}, {[]api.State{c, b, a}, c}, {[]api.State{b, c, a}, state(c.Seen, b.Facts[0], c.Facts[1])},
		{[]api.State{a, gone}, gone}, {[]api.State{gone, a}, gone}, {[]api.State{a, gone, b}, gone}, {[]api.State{c, gone}, state(c.Seen, c.Facts[1])},
		{[]api.State{{}, b, {}, a, {}}, b},
	} {
		tells(t, holding(4, l.l...), 4, len(l.l), l.want, true)
		tells(t, holding(4, append(deeds(2), l.l...)...), 6, len(l.l), l.want, true)
		tells(t, holding(4, append(slices.Clone(l.l), deeds(2)...)...), 4, len(l.l), l.want, true)
	}
}

// 12.1: more than MaxFacts facts together: All has all of them.
func TestSinceMany(t *testing.T) {
	var l []api.State
	var want api.State
	for dev := range devs {
		s := state(runs(dev, 1, maxFacts))
		for n := range maxFacts {
			s.Facts = append(s.Facts, reg(dev, n+1, "k", ""))
		}
		if !facts.May(s) {
			t.Fatal("8.1: May is false")
		}
		l, want.Seen, want.Facts = append(l, s), append(want.Seen, s.Seen...), append(want.Facts, s.Facts...)
	}
	tells(t, holding(0, l...), 0, devs, want, true)
	tells(t, holding(0, l...), 1, 2, state(want.Seen[1:3], want.Facts[maxFacts:3*maxFacts]...), true)
}

// 12.1: Ack, of three and of none: what First is, and which are left.
func TestAckEdges(t *testing.T) {
	l := deeds(3)
	for _, first := range firsts() {
		for _, c := range []struct{ n, gone int }{{-2, 0}, {-1, 0}, {0, 0}, {1, 1}, {2, 2}, {3, 3}, {4, 3}, {5, 3}, {100, 3}} {
			holds(t, fmt.Sprintf("Ack of three from %d on, %d", first, first+c.n), buffer.Ack(holding(first, l...), first+c.n), first+c.gone, l[c.gone:])
			for _, empty := range []api.Buffer{{First: first}, {First: first, L: []api.State{}}, {First: first, L: l[:0]}} {
				holds(t, fmt.Sprintf("Ack of none from %d on, %d", first, first+c.n), buffer.Ack(empty, first+c.n), first, nil)
			}
		}
		for _, n := range ends() {
			gone := 3
			if n <= first {
				gone = 0
			} else if n < first+3 {
				gone = n - first
			}
			holds(t, fmt.Sprintf("Ack of three from %d on, %d", first, n), buffer.Ack(holding(first, l...), n), first+gone, l[gone:])
			holds(t, fmt.Sprintf("Ack of none from %d on, %d", first, n), buffer.Ack(holding(first), n), first, nil)
		}
	}
}

// 12.1: what is left by Ack has the numbers that it had.
func TestAckNumbers(t *testing.T) {
	b := holding(50, deeds(6)...)
	for n := 50; n <= 56; n++ {
		left := buffer.Ack(b, n)
		for at := n; at <= 56; at++ {
			for many := range 8 {
				want, ok := buffer.Since(b, at, many)
				tells(t, left, at, many, want, ok)
			}
		}
	}
}

// 12.1: what was acked is asked no more; nor does it come again by another Ack.
func TestAckGone(t *testing.T) {
	for _, first := range firsts() {
		b := holding(first, deeds(5)...)
		for gone := range 6 {
			left := buffer.Ack(b, first+gone)
			for n := first - 1; n < first+gone; n++ {
				tells(t, left, n, 1, api.State{}, false)
				tells(t, left, n, 0, api.State{}, false)
				tells(t, left, n, math.MaxInt, api.State{}, false)
				holds(t, "Ack of what is gone", buffer.Ack(left, n), first+gone, b.L[gone:])
			}
			holds(t, "Ack of the same", buffer.Ack(left, first+gone), first+gone, b.L[gone:])
			for more := gone; more < 6; more++ {
				holds(t, "Ack of more", buffer.Ack(left, first+more), first+more, b.L[more:])
			}
		}
	}
}

// 12.1: all buffers of up to three deltas of a few, by all numbers around them.
func TestAll(t *testing.T) {
	few := []api.State{{}, deed(1), deed(2), state(runs(3, 1, 1)), state(runs(3, 1, 2), set(3, 1, "k", "other"), count(3, 2, "n", 5))}
	var lists [][]api.State
	next := [][]api.State{nil}
	for range 4 {
		lists = append(lists, next...)
		var longer [][]api.State
		for _, l := range next {
			for _, s := range few {
				longer = append(longer, append(slices.Clone(l), s))
			}
		}
		next = longer
	}
	for _, l := range lists {
		for _, first := range []int{0, 9, maxFirst} {
			b := holding(first, l...)
			for _, n := range around(b) {
				for _, many := range counts(b) {
					heldAgainst(t, b, n, many, few[4])
				}
			}
			if t.Failed() {
				return
			}
		}
	}
}

// script is a device's deeds, one after another: what each comes to as a delta,
// and the state behind all of them.
func script(t *testing.T, dev int, s api.State, ops ...api.Op) ([]api.State, api.State) {
	t.Helper()
	var l []api.State
	for _, op := range ops {
		delta, e := mutate.Do(s, dev, op)
		if e != api.OK {
			t.Fatalf("11.1: %v by %d on %v is refused: %d", op, dev, s, e)
		}
		l, s = append(l, delta), join.Join(s, delta)
	}
	return l, s
}

// someOps are deeds of each kind, some of which undo what others did.
func someOps() []api.Op {
	return []api.Op{
		{Kind: api.OSet, Key: "a", Item: "one"}, {Kind: api.OAdd, Key: "s", Item: "m"}, {Kind: api.OInc, Key: "n", N: 5}, {Kind: api.OSet, Key: "a", Item: "two"},
		{Kind: api.OAdd, Key: "s", Item: "o"}, {Kind: api.ORem, Key: "s", Item: "m"}, {Kind: api.OInc, Key: "n", N: -7}, {Kind: api.OAdd, Key: "s", Item: "m"},
		{Kind: api.OSet, Key: "b", Item: ""}, {Kind: api.ODel, Key: "a"}, {Kind: api.OInc, Key: "n", N: 1}, {Kind: api.OAdd, Key: "s", Item: "o"}, {Kind: api.ODel, Key: "s"},
	}
}

// 12.2: Since of all is All of all, of deltas that deeds made; so it is in two
// parts side by side, joined, and in more.
func TestSinceAll(t *testing.T) {
	others := state(runs(1, 1, 3, 5, 2, 2), reg(1, 1, "a", "other"), set(1, 3, "s", "m"), count(5, 2, "n", 40))
	for _, first := range firsts() {
		for _, begin := range []api.State{{}, others} {
			l, end := script(t, 2, begin, someOps()...)
			b := holding(first)
			for _, s := range l {
				b = buffer.Add(b, s)
			}
			all := join.All(l...)
			for _, many := range []int{len(l), len(l) + 1, math.MaxInt} {
				tells(t, b, first, many, all, true)
			}
			if got := join.Join(begin, all); !facts.Same(got, end) {
				t.Errorf("12.2: all deeds come to %v, not %v", got, end)
			}
			for cut := range len(l) + 1 {
				x, ok := buffer.Since(b, first, cut)
				y, too := buffer.Since(b, first+cut, len(l)-cut)
				if !ok || !too || !facts.Same(x, join.All(l[:cut]...)) || !facts.Same(join.Join(x, y), all) {
					t.Errorf("12.2: in two parts, %d and %d: %v, %v", cut, len(l)-cut, x, y)
				}
				// What is left by Ack is the second part.
				tells(t, buffer.Ack(b, first+cut), first+cut, len(l), join.All(l[cut:]...), true)
			}
			for size := 1; size <= len(l); size++ {
				var got api.State
				left := b
				for at := first; at < first+len(l); at += size {
					part, ok := buffer.Since(left, at, size)
					if !ok {
						t.Fatalf("12.1: Since(%v, %d, %d) is false", left, at, size)
					}
					got, left = join.Join(got, part), buffer.Ack(left, at+size)
				}
				holds(t, "what Ack left of all", left, first+len(l), nil)
				if !facts.Same(got, all) {
					t.Errorf("12.2: in parts of %d: %v, not %v", size, got, all)
				}
			}
		}
	}
}

// some is a state by bytes, which may be.
func some(x []byte) api.State {
	var l []api.State
	for i, v := range x {
		dev, n := int(v%3), int(v/3%4)+1
		switch v / 12 % 4 {
		case 0:
			l = append(l, state(runs(dev, n, n)))
		case 1:
			l = append(l, state(runs(dev, n, n), reg(dev, n, "k", fmt.Sprint(i))))
		case 2:
			l = append(l, state(runs(dev, n, n+2), set(dev, n+1, "s", fmt.Sprint(v))))
		case 3:
			l = append(l, state(runs(dev, maxDot, maxDot), count(dev, maxDot, "n", int(v))))
		}
	}
	return join.All(l...)
}

// lives goes through calls that bytes say, on one buffer, and holds each answer
// against numbered deltas.
func lives(t *testing.T, first int, x []byte) {
	t.Helper()
	b, model := holding(first), []numbered(nil)
	next := first
	for i := 0; i+2 < len(x) && !t.Failed(); i += 3 {
		n := first + int(x[i+1])%(next-first+4) - 2
		switch x[i] % 4 {
		case 0, 1:
			s := some(x[i+1 : min(len(x), i+1+int(x[i]/4%8))])
			b, model = buffer.Add(b, s), append(model, numbered{next, s})
			next++
		case 2:
			b = buffer.Ack(b, n)
			model = slices.DeleteFunc(model, func(one numbered) bool { return one.number < n })
			first = min(max(first, n), next)
		case 3:
			many := int(x[i+2])%(len(model)+3) - 1
			want, ok := slowSince(first, model, n, many)
			if first == next {
				ok = n == next && many >= 0
			}
			tells(t, b, n, many, want, ok)
		}
		holds(t, "what the calls so far told", b, first, deltas(model))
		if first+len(b.L) != next {
			t.Errorf("12.1: the number behind the last one is %d, not %d", first+len(b.L), next)
		}
	}
}

// 12.1: calls at random, one on what the other told.
func TestLives(t *testing.T) {
	r := rand.New(rand.NewSource(12))
	for i := range 600 {
		x := make([]byte, r.Intn(300))
		for i := range x {
			x[i] = byte(r.Intn(256))
		}
		l := firsts()
		lives(t, l[i%len(l)], x)
		if t.Failed() {
			return
		}
	}
}

// 12.1: all states that the answers are held against may be.
func TestMay(t *testing.T) {
	r := rand.New(rand.NewSource(8))
	for range 500 {
		x := make([]byte, r.Intn(20))
		for i := range x {
			x[i] = byte(r.Intn(256))
		}
		if s := some(x); !facts.May(s) {
			t.Fatalf("8.1: May(%v) is false", s)
		}
	}
	for _, s := range whole() {
		for _, one := range s.L {
			if !facts.May(one) {
				t.Fatalf("8.1: May(%v) is false", one)
			}
		}
	}
}

// room is how much is behind the end of what guarded tells.
const room = 3

// guarded is a copy of l with room behind its end, which is filled.
func guarded[T any](l []T, fill T) []T {
	return append(slices.Clone(l), slices.Repeat([]T{fill}, room)...)[:len(l)]
}

// guard is s in other memory, guarded.
func guard(s api.State) api.State {
	return api.State{Seen: guarded(s.Seen, api.Run{Dev: 4, From: 44, To: 444}), Facts: guarded(s.Facts, reg(4, 44, "a", "behind"))}
}

// guardAll is b in other memory, guarded.
func guardAll(b api.Buffer) api.Buffer {
	l := guarded(b.L, api.State{})
	for i, s := range l[:len(l)+room] {
		l[:len(l)+room][i] = guard(s)
	}
	return api.Buffer{First: b.First, L: l}
}

// shown tells all of b, which is guarded, with the room behind it.
func shown(b api.Buffer) string {
	text := fmt.Sprint(b.First, len(b.L))
	for _, s := range b.L[:len(b.L)+room] {
		text += shownState(s)
	}
	return text
}

// shownState tells all of s, which is guarded, with the room behind it.
func shownState(s api.State) string {
	return fmt.Sprintf("%d, %d: %v %#v", len(s.Seen), len(s.Facts), s.Seen[:len(s.Seen)+room], s.Facts[:len(s.Facts)+room])
}

// spoil writes into all of s, into its spare room too, and behind it.
func spoil(s api.State) {
	_, _ = append(s.Seen, api.Run{Dev: -9}), append(s.Facts, api.Fact{Key: "appended"})
	for i := range s.Seen[:cap(s.Seen)] {
		s.Seen[:cap(s.Seen)][i] = api.Run{Dev: -9, From: -9, To: -9}
	}
	for i := range s.Facts[:cap(s.Facts)] {
		s.Facts[:cap(s.Facts)][i] = api.Fact{Dot: dot(-9, -9), Key: "spoilt", Kind: -9, Item: "spoilt", N: -9}
	}
}

// spoilAll writes into all of b, into its spare room too, and behind it.
func spoilAll(b api.Buffer) {
	_ = append(b.L, deed(9))
	l := b.L[:cap(b.L)]
	for i := range l {
		spoil(l[i])
		l[i] = state(runs(-9, -9, -9))
	}
}

// whole are buffers of none, one, and more deltas, also of one delta often.
func whole() []api.Buffer {
	s := state(runs(0, 1, 3, 7, maxDot, maxDot), reg(0, 1, "a", "x"), set(0, 3, "a", "y"), count(7, maxDot, "b", -7))
	return []api.Buffer{
		{}, holding(5), holding(5, api.State{}), holding(5, s), holding(5, deeds(4)...), holding(maxFirst, s, deed(1), api.State{}, state(runs(0, 1, 3)), deed(2)),
		holding(0, s, s, s), holding(7, slices.Repeat([]api.State{deed(3)}, 9)...),
	}
}

// told is what a call told: a buffer, or a state.
type told struct {
	b api.Buffer
	s api.State
}

func (x told) String() string {
	return fmt.Sprint(x.b, x.s)
}

func (x told) spoil() {
	spoil(x.s)
	spoilAll(x.b)
}

// calls are all ways to call on b and s.
func calls(b api.Buffer, s api.State) []func() told {
	l := []func() told{
		func() told { return told{b: buffer.Add(b, s)} },
		func() told { return told{b: buffer.Add(b, api.State{})} },
		func() told { return told{b: buffer.Add(api.Buffer{First: b.First}, s)} },
	}
	if len(b.L) > 0 {
		l = append(l, func() told { return told{b: buffer.Add(b, b.L[0])} })
	}
	for n := b.First - 1; n <= b.First+len(b.L)+1; n++ {
		l = append(l, func() told { return told{b: buffer.Ack(b, n)} })
		for many := -1; many <= len(b.L)+1; many++ {
			l = append(l, func() told {
				s, _ := buffer.Since(b, n, many)
				return told{s: s}
			})
		}
	}
	return l
}

// R3: what is handed in stays as it was, behind its end too; what is told shares
// no memory with it, nor with what is told again.
func TestMemory(t *testing.T) {
	for _, one := range whole() {
		for _, two := range []api.State{{}, deed(5), state(runs(0, 1, 1), reg(0, 1, "a", "x"))} {
			b, s := guardAll(one), guard(two)
			wasB, wasS := shown(b), shownState(s)
			for i, call := range calls(b, s) {
				first, second := call(), call()
				want := fmt.Sprint(second)
				first.spoil()
				if shown(b) != wasB || shownState(s) != wasS {
					t.Fatalf("R3: call %d, and who wrote into it, turned %s, %s into %s, %s", i, wasB, wasS, shown(b), shownState(s))
				}
				if fmt.Sprint(second) != want {
					t.Errorf("R3: two answers of call %d share memory: %v, not %s", i, second, want)
				}
				if third := fmt.Sprint(call()); third != want {
					t.Errorf("R5: call %d tells %s, then %s", i, want, third)
				}
			}
		}
	}
}

// R3: what is told is not turned by who writes into what was handed in.
func TestKept(t *testing.T) {
	for _, one := range whole() {
		for i, ask := range calls(one, deed(5)) {
			b, s := guardAll(one), guard(deed(5))
			got := calls(b, s)[i]()
			spoil(s)
			spoilAll(b)
			if want := fmt.Sprint(ask()); fmt.Sprint(got) != want {
				t.Errorf("R3: call %d on %v keeps what it was handed: %v", i, one, got)
			}
		}
	}
}

// R3: no two lists of one answer share memory, though those that are handed in
// do.
func TestApart(t *testing.T) {
	s := guard(state(runs(0, 1, 3, 7, 5, 5), reg(0, 1, "a", "x"), set(0, 3, "a", "y")))
	less := api.State{Seen: s.Seen[:1], Facts: s.Facts[:1]}
	b := holding(3, less, s, s, api.State{Seen: s.Seen[:0], Facts: s.Facts[:0]}, less)
	for name, call := range map[string]func() api.Buffer{
		"Add":         func() api.Buffer { return buffer.Add(b, s) },
		"Ack of none": func() api.Buffer { return buffer.Ack(b, 0) },
		"Ack of one":  func() api.Buffer { return buffer.Ack(b, 4) },
	} {
		for i := range call().L {
			got := call()
			want := call().L
			spoil(got.L[i])
			for j := range got.L {
				if j != i && !facts.Same(got.L[j], want[j]) {
					t.Errorf("R3: %s: the %d-th shares memory with the %d-th", name, j, i)
				}
			}
		}
	}
	if want := (api.Run{Dev: 7, From: 5, To: 5}); s.Seen[1] != want || s.Facts[1].Item != "y" {
		t.Errorf("R3: what was handed in is %v now", s)
	}
}

// R3: two buffers that came of one do not touch one another.
func TestBranches(t *testing.T) {
	b := holding(2)
	for n := range 20 {
		x, y := buffer.Add(b, deed(100)), buffer.Add(b, deed(200))
		holds(t, "one of two", x, 2, append(deeds(n), deed(100)))
		holds(t, "the other of two", y, 2, append(deeds(n), deed(200)))
		b = buffer.Add(b, deed(n+1))
		holds(t, "one of two, later", x, 2, append(deeds(n), deed(100)))
		left := buffer.Ack(b, 2+n)
		more := buffer.Add(left, deed(300))
		holds(t, "what Ack left", left, 2+n, []api.State{deed(n + 1)})
		holds(t, "what was added to that", more, 2+n, []api.State{deed(n + 1), deed(300)})
		holds(t, "where it came from", b, 2, deeds(n+1))
	}
}

// R5: the same calls tell the same, whatever was called in between.
func TestAgain(t *testing.T) {
	say := func() string {
		text := ""
		for _, b := range whole() {
			for _, call := range calls(b, deed(5)) {
				text += call().String()
			}
		}
		return text
	}
	first := say()
	for i := range 10 {
		b := buffer.Add(holding(i, deeds(i)...), deed(i+1))
		spoilAll(buffer.Ack(b, i+i/2))
		s, _ := buffer.Since(b, i, i)
		spoil(s)
		spoilAll(b)
		if again := say(); again != first {
			t.Fatal("R5: the same calls tell another")
		}
	}
}

// R1: every call ends and none panics, also on what nothing is said of: a First
// that may not be, and states that may not.
func TestAnything(t *testing.T) {
	wrong := []api.State{
		state(runs(-1, 5, 1, 9, 0, 0, 9, math.MinInt, math.MaxInt)), {Facts: []api.Fact{reg(99, -1, "k", "x"), reg(-5, math.MaxInt, "", ""), {}, {}}},
		state(runs(0, math.MaxInt, math.MaxInt, 0, 1, 1), count(0, math.MaxInt, "n", math.MinInt), count(0, 1, "n", math.MaxInt)), state(runs(3, math.MinInt, -1)), {},
	}
	for _, first := range append(ends(), firsts()...) {
		for size := range len(wrong) + 1 {
			b := holding(first, wrong[:size]...)
			for _, n := range append(around(b), firsts()...) {
				got := buffer.Ack(b, n)
				if len(got.L) > size {
					t.Errorf("12.1: Ack(%v, %d) has %d deltas", b, n, len(got.L))
				}
				for _, many := range counts(b) {
					s, ok := buffer.Since(b, n, many)
					if many < 0 && ok || !ok && (s.Seen != nil || s.Facts != nil) {
						t.Errorf("12.1: Since(%v, %d, %d) is %v, %v", b, n, many, s, ok)
					}
				}
			}
			if got := buffer.Add(b, wrong[0]); len(got.L) != size+1 || got.First != first {
				t.Errorf("12.1: Add(%v) is %v", b, got)
			}
		}
	}
}

// R1: many deltas come to an end soon.
func TestLong(t *testing.T) {
	const many = 1 << 16
	l := deeds(many)
	b := holding(7, l...)
	all, ok := buffer.Since(b, 7, math.MaxInt)
	if !ok || len(all.Facts) != many || !slices.Equal(all.Seen, runs(3, 1, many)) {
		t.Errorf("12.2: Since of %d deltas has %d facts, %v", many, len(all.Facts), all.Seen)
	}
	tells(t, b, 7+many-1, many, deed(many), true)
	tells(t, b, 7+many, many, api.State{}, true)
	tells(t, b, 7+many+1, many, api.State{}, false)
	holds(t, "Ack of half", buffer.Ack(b, 7+many/2), 7+many/2, l[many/2:])
	holds(t, "Add to many", buffer.Add(b, deed(1)), 7, append(l, deed(1)))
}

func FuzzBuffer(f *testing.F) {
	f.Add(0, 0, 0, []byte{})
	f.Add(7, 8, 2, []byte{1, 2, 3, 4, 5, 6, 7, 8, 9})
	f.Add(maxFirst, math.MaxInt, math.MaxInt, []byte("some deltas, one behind the other"))
	f.Add(3, math.MinInt, math.MinInt, []byte("more of them"))
	f.Fuzz(func(t *testing.T, first, n, many int, x []byte) {
		first = int(uint(first) % (maxFirst + 1))
		b := holding(first)
		for part := range slices.Chunk(x, 4) {
			b.L = append(b.L, some(part))
		}
		heldAgainst(t, b, n, many, some(x))
		heldAgainst(t, b, first+n%(len(b.L)+3), many%(len(b.L)+2), some(x))
		lives(t, first, x)
	})
}

func BenchmarkAdd(b *testing.B) {
	for _, n := range []int{0, 30, maxFacts} {
		x := holding(1, deeds(n)...)
		b.Run(fmt.Sprint(n), func(b *testing.B) {
			for b.Loop() {
				buffer.Add(x, deed(1))
			}
		})
	}
}

func BenchmarkSince(b *testing.B) {
	for _, n := range []int{1, 30, maxFacts} {
		x := holding(1, deeds(n)...)
		b.Run(fmt.Sprint(n), func(b *testing.B) {
			for b.Loop() {
				buffer.Since(x, 1, n)
			}
		})
	}
}

func BenchmarkAck(b *testing.B) {
	for _, n := range []int{1, 30, maxFacts} {
		x := holding(1, deeds(n)...)
		b.Run(fmt.Sprint(n), func(b *testing.B) {
			for b.Loop() {
				buffer.Ack(x, 1+n/2)
			}
		})
	}
}
