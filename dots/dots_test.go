package dots_test

import (
	"fmt"
	"math"
	"math/rand"
	"slices"
	"testing"

	"deaddrop/api"
	"deaddrop/dots"
)

const (
	devs = 8
	most = 1 << 52
)

// runs are Dev, From, To; Dev, From, To; and so on.
func runs(n ...int) []api.Run {
	var l []api.Run
	for i := 0; i+2 < len(n); i += 3 {
		l = append(l, api.Run{Dev: n[i], From: n[i+1], To: n[i+2]})
	}
	return l
}

// deeds are Dev, N; Dev, N; and so on.
func deeds(n ...int) []api.Dot {
	var l []api.Dot
	for i := 0; i+1 < len(n); i += 2 {
		l = append(l, api.Dot{Dev: n[i], N: n[i+1]})
	}
	return l
}

// plain are all dots of l, in order.
func plain(l []api.Run) []api.Dot {
	var out []api.Dot
	for _, r := range l {
		for n := r.From; n <= r.To; n++ {
			out = append(out, api.Dot{Dev: r.Dev, N: n})
		}
	}
	return out
}

// slowOf is the set of these dots: it goes through all N from 1 to 60.
func slowOf(l []api.Dot) []api.Run {
	var out []api.Run
	for dev := range devs {
		begin := 0
		for n := 1; n <= 61; n++ {
			has := n <= 60 && slices.Contains(l, api.Dot{Dev: dev, N: n})
			if has && begin == 0 {
				begin = n
			}
			if !has && begin > 0 {
				out = append(out, api.Run{Dev: dev, From: begin, To: n - 1})
				begin = 0
			}
		}
	}
	return out
}

// told tells the test that what a call told is want, and may be.
func told(t *testing.T, what string, got, want []api.Run) {
	t.Helper()
	if !slices.Equal(got, want) {
		t.Errorf("7.1: %s is %v, not %v", what, got, want)
	}
	if !dots.May(got) {
		t.Errorf("7.1: %s is %v, which may not be", what, got)
	}
}

// A field is some parts, in order, none of which overlap; of it all sets are
// made: the set of a mask has the parts whose bits the mask has.
type field []api.Run

// set is the set of the mask.
func (f field) set(mask int) []api.Run {
	var out []api.Run
	for i, part := range f {
		if mask>>i&1 == 0 {
			continue
		}
		if i > 0 && mask>>(i-1)&1 == 1 && f[i-1].Dev == part.Dev && f[i-1].To+1 == part.From {
			out[len(out)-1].To = part.To
		} else {
			out = append(out, part)
		}
	}
	return out
}

// sets are the sets of all masks.
func (f field) sets() [][]api.Run {
	l := make([][]api.Run, 1<<len(f))
	for mask := range l {
		l[mask] = f.set(mask)
	}
	return l
}

// last is the greatest N of dev in the set of the mask.
func (f field) last(mask, dev int) int {
	n := 0
	for i, part := range f {
		if mask>>i&1 == 1 && part.Dev == dev {
			n = max(n, part.To)
		}
	}
	return n
}

// row is n parts of dev, side by side, each so long.
func row(dev, from, n, long int) field {
	var f field
	for i := range n {
		f = append(f, api.Run{Dev: dev, From: from + i*long, To: from + (i+1)*long - 1})
	}
	return f
}

// fields are of one device and of some, at the lowest dots and the greatest,
// of single dots and of long parts.
func fields() []field {
	return []field{
		row(0, 1, 9, 1),
		row(7, most-8, 9, 1),
		slices.Concat(row(0, most-2, 3, 1), row(1, 1, 3, 1), row(7, 3, 3, 1)),
		slices.Concat(row(2, 1, 2, 1), row(3, 2, 2, 1), row(4, 4, 2, 1), row(5, 1, 2, 1)),
		slices.Concat(row(0, 1, 4, 1<<40), row(3, 5, 2, 1), row(3, most-1<<51+1, 2, 1<<50)),
	}
}

// 7.1: all sets that the tests hold answers against may be.
func TestFields(t *testing.T) {
	for _, f := range fields() {
		for _, l := range f.sets() {
			if !dots.May(l) {
				t.Fatalf("7.1: May(%v) is false", l)
			}
		}
	}
}

// 7.1: each rule of May, at its edges.
func TestMay(t *testing.T) {
	for _, c := range []struct {
		l    []api.Run
		want bool
	}{
		{nil, true},
		{[]api.Run{}, true},
		{runs(0, 1, 1), true},
		{runs(0, 1, most), true},
		{runs(0, 1, most+1), false},
		{runs(0, most, most), true},
		{runs(0, most+1, most+1), false},
		{runs(0, most, most+1), false},
		{runs(0, 1, math.MaxInt), false},
		{runs(0, math.MinInt, math.MaxInt), false},
		{runs(0, math.MaxInt, math.MinInt), false},
		{runs(0, 0, 0), false},
		{runs(0, 0, 1), false},
		{runs(0, -1, 1), false},
		{runs(0, 2, 1), false},
		{runs(0, 1, 0), false},
		{runs(0, 5, 5), true},
		{runs(-1, 1, 1), false},
		{runs(math.MinInt, 1, 1), false},
		{runs(devs-1, 1, 1), true},
		{runs(devs, 1, 1), false},
		{runs(math.MaxInt, 1, 1), false},
		{make([]api.Run, 1), false},
		{runs(0, 1, 5, 0, 4, 9), false},
		{runs(0, 1, 5, 0, 5, 9), false},
		{runs(0, 1, 5, 0, 6, 9), false},
		{runs(0, 1, 5, 0, 7, 9), true},
		{runs(0, 1, 5, 0, 1, 5), false},
		{runs(0, 1, 9, 0, 3, 5), false},
		{runs(0, 7, 9, 0, 1, 5), false},
		{runs(0, 1, most-2, 0, most, most), true},
		{runs(0, 1, most-1, 0, most, most), false},
		{runs(0, 1, most, 0, 1, most), false},
		{runs(0, 1, 5, 1, 1, 5), true},
		{runs(0, 1, 5, 1, 6, 9), true},
		{runs(0, 6, 9, 1, 1, 5), true},
		{runs(1, 1, 5, 0, 7, 9), false},
		{runs(0, 1, 5, 1, 1, 5, 0, 7, 9), false},
		{runs(0, 1, 1, 1, 1, 1, 2, 1, 1, 3, 1, 1, 4, 1, 1, 5, 1, 1, 6, 1, 1, 7, 1, 1), true},
		{runs(0, 1, 1, 0, 3, 3, 0, 5, 5, 7, 1, 1, 7, 3, 3), true},
		{runs(0, 1, 1, 0, 3, 3, 0, 5, 5, 7, 1, 1, 7, 2, 3), false},
		{runs(0, 1, 1, 0, 3, 3, 0, 5, 5, 8, 1, 1), false},
		{runs(0, 1, 1, 0, 0, 3), false},
		{runs(0, 0, 1, 0, 3, 3), false},
		{runs(0, 1, 1, 0, 3, 2), false},
	} {
		if got := dots.May(c.l); got != c.want {
			t.Errorf("7.1: May(%v) is %v", c.l, got)
		}
	}
}

// 7.1: all lists of one run and of two, of small numbers: a list may be, if
// each run of it stands, and it is what its dots are as a set.
func TestMayAll(t *testing.T) {
	var all []api.Run
	for _, dev := range []int{-1, 0, 1, devs - 1, devs} {
		for from := -1; from <= 5; from++ {
			for to := -1; to <= 5; to++ {
				all = append(all, api.Run{Dev: dev, From: from, To: to})
			}
		}
	}
	check := func(l ...api.Run) {
		want := slices.Equal(slowOf(plain(l)), l)
		if got := dots.May(l); got != want {
			t.Errorf("7.1: May(%v) is %v", l, got)
		}
	}
	for _, a := range all {
		check(a)
		for _, b := range all {
			check(a, b)
		}
	}
}

// 7.1: dots in any order, twice, side by side, and ones that do not count.
func TestOf(t *testing.T) {
	for _, c := range []struct{ l, want []int }{
		{nil, nil},
		{[]int{0, 1}, []int{0, 1, 1}},
		{[]int{7, most}, []int{7, most, most}},
		{[]int{0, 1, 0, 1}, []int{0, 1, 1}},
		{[]int{0, 1, 0, 2}, []int{0, 1, 2}},
		{[]int{0, 2, 0, 1}, []int{0, 1, 2}},
		{[]int{0, 1, 0, 3}, []int{0, 1, 1, 0, 3, 3}},
		{[]int{0, 3, 0, 1}, []int{0, 1, 1, 0, 3, 3}},
		{[]int{0, 3, 0, 1, 0, 2}, []int{0, 1, 3}},
		{[]int{0, 3, 0, 1, 0, 2, 0, 3, 0, 1}, []int{0, 1, 3}},
		{[]int{0, 1, 1, 1}, []int{0, 1, 1, 1, 1, 1}},
		{[]int{1, 2, 0, 1}, []int{0, 1, 1, 1, 2, 2}},
		{[]int{1, 1, 0, most, 0, most - 1}, []int{0, most - 1, most, 1, 1, 1}},
		{[]int{7, 5, 3, 5, 7, 4, 3, 6, 0, 9}, []int{0, 9, 9, 3, 5, 6, 7, 4, 5}},
		{[]int{0, 0}, nil},
		{[]int{0, -1, 0, math.MinInt}, nil},
		{[]int{0, most + 1, 0, math.MaxInt}, nil},
		{[]int{-1, 1, devs, 1, math.MinInt, 1, math.MaxInt, 1}, nil},
		{[]int{0, 0, 0, 1, 0, -1}, []int{0, 1, 1}},
		{[]int{0, most + 1, 0, most, 0, most + 2}, []int{0, most, most}},
		{[]int{8, 2, 7, 3, -1, 2, 0, 3, 8, 3}, []int{0, 3, 3, 7, 3, 3}},
		{[]int{4, 5, 4, 0, 4, 6, 9, 7, 4, 7}, []int{4, 5, 7}},
	} {
		told(t, fmt.Sprint("Of", deeds(c.l...)), dots.Of(deeds(c.l...)...), runs(c.want...))
	}
}

// 7.1: all sets of a few dots, whose dots are handed in in any order, once or
// more often, among such that do not count.
func TestOfAll(t *testing.T) {
	r := rand.New(rand.NewSource(7))
	none := deeds(0, 0, 0, -1, 0, most+1, -1, 1, devs, 2, devs, 0)
	for _, f := range fields()[:4] {
		for mask, want := range f.sets() {
			if t.Failed() {
				return
			}
			l := plain(want)
			told(t, fmt.Sprint("Of", l), dots.Of(l...), want)
			slices.Reverse(l)
			told(t, fmt.Sprint("Of", l), dots.Of(l...), want)
			l = slices.Concat(l, none, l[:len(l)/2])
			r.Shuffle(len(l), func(i, j int) { l[i], l[j] = l[j], l[i] })
			told(t, fmt.Sprint(mask, ": Of", l), dots.Of(l...), want)
		}
	}
}

// 7.1: a run's ends, and one beside each.
func TestHas(t *testing.T) {
	l := runs(0, 2, 4, 0, 6, 6, 3, 1, 1, 3, 10, most-1, 7, most, most)
	for _, d := range deeds(0, 2, 0, 3, 0, 4, 0, 6, 3, 1, 3, 10, 3, 11, 3, 1<<51, 3, most-1, 7, most) {
		if !dots.Has(l, d) {
			t.Errorf("7.1: %v has not %v", l, d)
		}
	}
	for _, d := range deeds(0, 0, 0, 1, 0, 5, 0, 7, 0, most, 1, 1, 1, 2, 1, 3, 2, 3, 2, most, 3, 0, 3, 2, 3, 9, 3, most, 3, most+1, 4, 1, 6, most, 7, most-1, 7, most+1, 7, 1, 7, math.MaxInt, 0, -3, 0, math.MinInt, -1, 3, -1, 2, math.MinInt, 2, devs, 3, devs, most, math.MaxInt, most) {
		if dots.Has(l, d) {
			t.Errorf("7.1: %v has %v", l, d)
		}
		for _, none := range [][]api.Run{nil, {}} {
			if dots.Has(none, d) {
				t.Errorf("7.1: nothing has %v", d)
			}
		}
	}
}

// 7.1: all sets of a few parts, at the ends of each, and beside.
func TestHasAll(t *testing.T) {
	for _, f := range fields() {
		for mask, l := range f.sets() {
			for i, part := range f {
				for _, n := range []int{part.From, (part.From + part.To) / 2, part.To} {
					if got := dots.Has(l, api.Dot{Dev: part.Dev, N: n}); got != (mask>>i&1 == 1) {
						t.Errorf("7.1: Has(%v, %d %d) is %v", l, part.Dev, n, got)
					}
				}
			}
			for _, r := range l {
				if dots.Has(l, api.Dot{Dev: r.Dev, N: r.From - 1}) || dots.Has(l, api.Dot{Dev: r.Dev, N: r.To + 1}) {
					t.Errorf("7.1: %v has a dot beside %v", l, r)
				}
			}
		}
	}
}

// 7.1 and 7.2: sets that are the same, apart, within one another, cut in two.
func TestUnionMinusLe(t *testing.T) {
	for _, c := range []struct {
		a, b, union, minus []int
		le                 bool
	}{
		{nil, nil, nil, nil, true},
		{nil, []int{0, 1, 5}, []int{0, 1, 5}, nil, true},
		{[]int{0, 1, 5}, nil, []int{0, 1, 5}, []int{0, 1, 5}, false},
		{[]int{0, 1, 5}, []int{0, 1, 5}, []int{0, 1, 5}, nil, true},
		{[]int{0, 1, most}, []int{0, 1, most}, []int{0, 1, most}, nil, true},
		{[]int{0, 1, 5}, []int{0, 6, 9}, []int{0, 1, 9}, []int{0, 1, 5}, false},
		{[]int{0, 6, 9}, []int{0, 1, 5}, []int{0, 1, 9}, []int{0, 6, 9}, false},
		{[]int{0, 1, 5}, []int{0, 7, 9}, []int{0, 1, 5, 0, 7, 9}, []int{0, 1, 5}, false},
		{[]int{0, 7, 9}, []int{0, 1, 5}, []int{0, 1, 5, 0, 7, 9}, []int{0, 7, 9}, false},
		{[]int{0, 1, 5}, []int{0, 5, 9}, []int{0, 1, 9}, []int{0, 1, 4}, false},
		{[]int{0, 5, 9}, []int{0, 1, 5}, []int{0, 1, 9}, []int{0, 6, 9}, false},
		{[]int{0, 1, 9}, []int{0, 3, 5}, []int{0, 1, 9}, []int{0, 1, 2, 0, 6, 9}, false},
		{[]int{0, 3, 5}, []int{0, 1, 9}, []int{0, 1, 9}, nil, true},
		{[]int{0, 1, 9}, []int{0, 1, 5}, []int{0, 1, 9}, []int{0, 6, 9}, false},
		{[]int{0, 1, 5}, []int{0, 1, 9}, []int{0, 1, 9}, nil, true},
		{[]int{0, 1, 9}, []int{0, 5, 9}, []int{0, 1, 9}, []int{0, 1, 4}, false},
		{[]int{0, 5, 9}, []int{0, 1, 9}, []int{0, 1, 9}, nil, true},
		{[]int{0, 1, 3}, []int{0, 2, 2}, []int{0, 1, 3}, []int{0, 1, 1, 0, 3, 3}, false},
		{[]int{0, 1, 9}, []int{0, 3, 3, 0, 5, 6}, []int{0, 1, 9}, []int{0, 1, 2, 0, 4, 4, 0, 7, 9}, false},
		{[]int{0, 1, 2, 0, 6, 7}, []int{0, 3, 5}, []int{0, 1, 7}, []int{0, 1, 2, 0, 6, 7}, false},
		{[]int{0, 3, 5}, []int{0, 1, 2, 0, 6, 7}, []int{0, 1, 7}, []int{0, 3, 5}, false},
		{[]int{0, 2, 3, 0, 5, 6, 0, 8, 9}, []int{0, 3, 8}, []int{0, 2, 9}, []int{0, 2, 2, 0, 9, 9}, false},
		{[]int{0, 1, 1, 0, 3, 3, 0, 5, 5}, []int{0, 2, 2, 0, 4, 4}, []int{0, 1, 5}, []int{0, 1, 1, 0, 3, 3, 0, 5, 5}, false},
		{[]int{0, 1, 5}, []int{1, 1, 5}, []int{0, 1, 5, 1, 1, 5}, []int{0, 1, 5}, false},
		{[]int{1, 1, 5}, []int{0, 1, 5}, []int{0, 1, 5, 1, 1, 5}, []int{1, 1, 5}, false},
		{[]int{0, 1, 5}, []int{1, 6, 9}, []int{0, 1, 5, 1, 6, 9}, []int{0, 1, 5}, false},
		{[]int{0, most, most}, []int{1, 1, 1}, []int{0, most, most, 1, 1, 1}, []int{0, most, most}, false},
		{[]int{0, 1, most}, []int{0, most, most}, []int{0, 1, most}, []int{0, 1, most - 1}, false},
		{[]int{0, 1, most}, []int{0, 1, 1}, []int{0, 1, most}, []int{0, 2, most}, false},
		{[]int{0, 1, 3, 7, 1, 3}, []int{0, 1, 3, 3, 1, 3, 7, 1, 3}, []int{0, 1, 3, 3, 1, 3, 7, 1, 3}, nil, true},
		{[]int{0, 2, 3, 2, 1, 4}, []int{0, 1, 5, 1, 7, 7, 2, 1, 4}, []int{0, 1, 5, 1, 7, 7, 2, 1, 4}, nil, true},
		{[]int{0, 1, 5, 0, 7, 9}, []int{0, 1, 5, 0, 7, 8}, []int{0, 1, 5, 0, 7, 9}, []int{0, 9, 9}, false},
		{[]int{0, 4, 7}, []int{0, 1, 5, 0, 7, 9}, []int{0, 1, 9}, []int{0, 6, 6}, false},
	} {
		a, b := runs(c.a...), runs(c.b...)
		told(t, fmt.Sprint("Union of ", a, b), dots.Union(a, b), runs(c.union...))
		told(t, fmt.Sprint("7.2: Union of ", b, a), dots.Union(b, a), runs(c.union...))
		told(t, fmt.Sprint("Minus of ", a, b), dots.Minus(a, b), runs(c.minus...))
		if got := dots.Le(a, b); got != c.le {
			t.Errorf("7.1: Le(%v, %v) is %v", a, b, got)
		}
	}
}

// 7.1 and 7.2: all pairs of sets of a few parts.
func TestPairs(t *testing.T) {
	for _, f := range fields() {
		sets := f.sets()
		for i, a := range sets {
			for j, b := range sets {
				union, minus := dots.Union(a, b), dots.Minus(a, b)
				if !slices.Equal(union, sets[i|j]) || !slices.Equal(minus, sets[i&^j]) {
					t.Fatalf("7.1: of %v and %v Union is %v, Minus %v", a, b, union, minus)
				}
				if dots.Le(a, b) != (i&^j == 0) {
					t.Fatalf("7.1: Le(%v, %v) is %v", a, b, i&^j != 0)
				}
			}
		}
	}
}

// 7.2: of three sets, too, and of one again and again.
func TestUnionOrder(t *testing.T) {
	r := rand.New(rand.NewSource(72))
	for _, f := range fields() {
		sets := f.sets()
		for range 20000 {
			if t.Failed() {
				return
			}
			i, j, k := r.Intn(len(sets)), r.Intn(len(sets)), r.Intn(len(sets))
			a, b, c, want := sets[i], sets[j], sets[k], sets[i|j|k]
			told(t, "7.2: Union", dots.Union(dots.Union(a, b), c), want)
			told(t, "7.2: Union", dots.Union(a, dots.Union(c, b)), want)
			told(t, "7.2: Union", dots.Union(dots.Union(c, a), dots.Union(b, a)), want)
		}
	}
}

// 7.1: a device with dots, with more, with none, and those that there are not.
func TestLast(t *testing.T) {
	l := runs(0, 2, 4, 0, 6, 6, 3, 1, 1, 5, 9, 20, 7, 1, most)
	for dev, want := range []int{6, 0, 0, 1, 0, 20, 0, most, 0, 0} {
		if got := dots.Last(l, dev); got != want {
			t.Errorf("7.1: Last(%v, %d) is %d", l, dev, got)
		}
		if got := dots.Last(nil, dev); got != 0 {
			t.Errorf("7.1: Last of nothing, %d is %d", dev, got)
		}
	}
	for _, dev := range []int{-1, -8, devs, math.MinInt, math.MaxInt} {
		if got := dots.Last(l, dev); got != 0 {
			t.Errorf("7.1: Last(%v, %d) is %d", l, dev, got)
		}
	}
	for _, f := range fields() {
		for mask, l := range f.sets() {
			for dev := -1; dev <= devs; dev++ {
				if got, want := dots.Last(l, dev), f.last(mask, dev); got != want {
					t.Errorf("7.1: Last(%v, %d) is %d, not %d", l, dev, got, want)
				}
			}
		}
	}
}

// R3: a nil list and an empty one are one, and sets without dots are nil or
// empty, whatever is behind their ends.
func TestNone(t *testing.T) {
	none := [][]api.Run{nil, {}, runs(0, 1, 5)[:0]}
	for _, a := range none {
		if !dots.May(a) || dots.Has(a, api.Dot{Dev: 0, N: 1}) || dots.Last(a, 0) != 0 || !dots.Le(a, runs(0, 2, 2)) || dots.Le(runs(0, 2, 2), a) {
			t.Errorf("R3: %#v is not as none", a)
		}
		for _, b := range none {
			if len(dots.Union(a, b)) > 0 || len(dots.Minus(a, b)) > 0 || !dots.Le(a, b) {
				t.Errorf("R3: %#v, %#v are not as none", a, b)
			}
		}
	}
	if len(dots.Of()) > 0 || len(dots.Of([]api.Dot{}...)) > 0 {
		t.Error("7.1: Of nothing")
	}
}

// spoil writes into all of l, into its spare room too.
func spoil(l []api.Run) {
	l = l[:cap(l)]
	for i := range l {
		l[i] = api.Run{Dev: -9, From: -9, To: -9}
	}
}

// room is how much is behind the end of what guarded tells.
const room = 3

// guarded is a copy of l with room behind its end, which is filled.
func guarded[T any](l []T, fill T) []T {
	return append(slices.Clone(l), slices.Repeat([]T{fill}, room)...)[:len(l)]
}

// R3: what is handed in stays as it was, behind its end too, and what is told
// shares no memory with it, nor with what is told again.
func TestMemory(t *testing.T) {
	fill := api.Run{Dev: 4, From: 44, To: 444}
	for _, f := range fields()[:4] {
		sets := f.sets()
		for i := 0; i < len(sets); i += 7 {
			for j := 0; j < len(sets); j += 5 {
				a, b := guarded(sets[i], fill), guarded(sets[j], fill)
				answers := [][]api.Run{dots.Union(a, b), dots.Union(a, nil), dots.Union(nil, a), dots.Union(a, a), dots.Minus(a, b), dots.Minus(a, nil), dots.Union(a, b), dots.Minus(a, b)}
				dots.May(a)
				dots.Le(a, b)
				dots.Last(a, 0)
				kept := [][]api.Run{}
				for _, l := range answers {
					kept = append(kept, slices.Clone(l))
				}
				for n, l := range answers {
					if !slices.Equal(l, kept[n]) {
						t.Fatalf("R3: two answers of %v, %v share memory", a, b)
					}
					spoil(l)
				}
				if !slices.Equal(a[:len(a)+room], guarded(sets[i], fill)[:len(a)+room]) || !slices.Equal(b[:len(b)+room], guarded(sets[j], fill)[:len(b)+room]) {
					t.Fatalf("R3: of %v, %v one is turned: %v, %v", sets[i], sets[j], a, b)
				}
			}
		}
	}
}

// R3: the dots that are handed in stay as they were, in their order.
func TestOfMemory(t *testing.T) {
	l := guarded(deeds(3, 3, 0, 5, 0, 4, 8, 1, 0, 0, 3, 3, 0, 6), api.Dot{Dev: 9, N: 9})
	before := slices.Clone(l[:len(l)+room])
	first, second := dots.Of(l...), dots.Of(l...)
	if !slices.Equal(l[:len(l)+room], before) {
		t.Errorf("R3: Of turned its dots: %v, not %v", l[:len(l)+room], before)
	}
	spoil(first)
	told(t, "R3: Of again", second, runs(0, 4, 6, 3, 3, 3))
	l[0], l[1] = api.Dot{Dev: 1, N: 1}, api.Dot{Dev: 1, N: 2}
	told(t, "R3: Of again", second, runs(0, 4, 6, 3, 3, 3))
}

// R5: the same calls tell the same, whatever was called in between.
func TestAgain(t *testing.T) {
	a, b := runs(0, 1, 5, 2, 2, 9), runs(0, 3, 9, 1, 1, 1, 2, 4, 4)
	say := func() string {
		return fmt.Sprint(dots.May(a), dots.Has(b, api.Dot{Dev: 0, N: 3}), dots.Union(a, b), dots.Minus(a, b), dots.Last(a, 2), dots.Le(a, b), dots.Of(plain(a)...))
	}
	first := say()
	for i := range 20 {
		dots.Union(runs(i, 1, 2), runs(7, 1, most))
		dots.Minus(runs(0, 1, most), runs(0, i, 2))
		dots.Of(deeds(5, i, 5, 1)...)
		if got := say(); got != first {
			t.Fatalf("R5: %s, then %s", first, got)
		}
	}
}

// R1: every call ends, and none panics, whatever it is given: lists that may
// not be as well, of which no more is said.
func TestOthers(t *testing.T) {
	r := rand.New(rand.NewSource(1))
	edges := []int{math.MinInt, math.MinInt + 1, -1, 0, 1, 2, 3, 4, 7, 8, most - 1, most, most + 1, math.MaxInt - 1, math.MaxInt}
	edge := func() int { return edges[r.Intn(len(edges))] }
	others := func() []api.Run {
		l := make([]api.Run, r.Intn(6))
		for i := range l {
			l[i] = api.Run{Dev: r.Intn(3), From: edge(), To: edge()}
			if r.Intn(4) == 0 {
				l[i].Dev = edge()
			}
		}
		return l
	}
	for range 200000 {
		a, b := others(), others()
		wasA, wasB := slices.Clone(a), slices.Clone(b)
		d := api.Dot{Dev: edge(), N: edge()}
		dots.May(a)
		dots.Has(a, d)
		dots.Union(a, b)
		dots.Minus(a, b)
		dots.Last(a, d.Dev)
		dots.Le(a, b)
		if l := dots.Of(d, api.Dot{Dev: edge(), N: edge()}, d); !dots.May(l) {
			t.Fatalf("7.1: Of told %v", l)
		}
		if !slices.Equal(a, wasA) || !slices.Equal(b, wasB) {
			t.Fatalf("R3: %v, %v turned into %v, %v", wasA, wasB, a, b)
		}
	}
}

// R1: however long lists are that may not be, calls end soon: each run of the
// one list against each of the other would take hours.
func TestManyOthers(t *testing.T) {
	const many = 1 << 20
	for _, pair := range [][2]api.Run{
		{{Dev: 0, From: 1, To: 9}, {Dev: 0, From: 5, To: 0}},
		{{Dev: 0, From: 1, To: 9}, {Dev: 0, From: 5, To: 5}},
		{{Dev: 0, From: 1, To: 9}, {Dev: 0, From: 1, To: 0}},
		{{Dev: 0, From: 9, To: 1}, {Dev: 0, From: 1, To: 9}},
		{{Dev: 0, From: 1, To: 9}, {Dev: 1, From: 1, To: 9}},
		{{Dev: 1, From: 1, To: 9}, {Dev: 0, From: 1, To: 9}},
	} {
		a, b := slices.Repeat(pair[:1], many), slices.Repeat(pair[1:], many)
		if n := len(dots.Minus(a, b)); n > 2*many {
			t.Errorf("R1: Minus told %d runs", n)
		}
		if n := len(dots.Union(a, b)); n > 2*many {
			t.Errorf("R1: Union told %d runs", n)
		}
		dots.Le(a, b)
	}
}

// comb is many runs of some dots, each behind as many that there are not.
func comb(many, from, long int) []api.Run {
	l := make([]api.Run, many)
	for i := range l {
		begin := from + 2*i*long
		l[i] = api.Run{Dev: 3, From: begin, To: begin + long - 1}
	}
	return l
}

// 7.1: many runs, that fit into one another's gaps, and that each cut one.
func TestMany(t *testing.T) {
	const many = 1 << 17
	a, b := comb(many, 1, 3), comb(many, 4, 3)
	whole := runs(3, 1, 6*many)
	told(t, "Union of many", dots.Union(a, b), whole)
	told(t, "Minus of many", dots.Minus(whole, a), b)
	told(t, "Minus of many", dots.Minus(whole, b), a)
	told(t, "Minus of many", dots.Minus(a, b), a)
	told(t, "Minus of many", dots.Minus(a, whole), nil)
	if !dots.Le(a, whole) || !dots.Le(a, a) || dots.Le(a, b) || dots.Le(whole, a) {
		t.Error("7.1: Le of many")
	}
	l := plain(a)
	rand.New(rand.NewSource(3)).Shuffle(len(l), func(i, j int) { l[i], l[j] = l[j], l[i] })
	told(t, "Of many", dots.Of(l...), a)
}

// scattered are dots by bytes, two of them each: some do not count.
func scattered(b []byte) []api.Dot {
	var l []api.Dot
	for i := 0; i+1 < len(b); i += 2 {
		l = append(l, api.Dot{Dev: int(b[i]%10) - 1, N: int(b[i+1] % 40)})
	}
	return l
}

// 7.1, held against a slow way.
func FuzzSets(f *testing.F) {
	f.Add([]byte{}, []byte{1, 1})
	f.Add([]byte{1, 1, 1, 2, 1, 3}, []byte{1, 2})
	f.Add([]byte{0, 1, 9, 1, 8, 0, 8, 39}, []byte{8, 38, 1, 1, 1, 3})
	f.Fuzz(func(t *testing.T, x, y []byte) {
		l, m := scattered(x), scattered(y)
		a, b := dots.Of(l...), dots.Of(m...)
		told(t, "Of", a, slowOf(l))
		told(t, "Union", dots.Union(a, b), slowOf(append(slices.Clone(l), m...)))
		left := slices.DeleteFunc(slices.Clone(l), func(d api.Dot) bool { return slices.Contains(m, d) })
		told(t, "Minus", dots.Minus(a, b), slowOf(left))
		if dots.Le(a, b) != (len(slowOf(left)) == 0) {
			t.Errorf("7.1: Le(%v, %v)", a, b)
		}
		for dev := -1; dev <= devs; dev++ {
			last := 0
			for n := range 42 {
				d := api.Dot{Dev: dev, N: n}
				has := dev >= 0 && dev < devs && n > 0 && slices.Contains(l, d)
				if has {
					last = n
				}
				if dots.Has(a, d) != has {
					t.Errorf("7.1: Has(%v, %v)", a, d)
				}
			}
			if got := dots.Last(a, dev); got != last {
				t.Errorf("7.1: Last(%v, %d) is %d", a, dev, got)
			}
		}
	})
}

func BenchmarkSets(b *testing.B) {
	for _, many := range []int{1, 8, 1000, 100000} {
		l, m := comb(many, 1, 3), comb(many, 4, 3)
		whole := runs(3, 1, 6*many)
		single := plain(l)
		for _, c := range []struct {
			name string
			call func()
		}{
			{"May", func() { dots.May(l) }},
			{"Of", func() { dots.Of(single...) }},
			{"Has", func() { dots.Has(l, single[len(single)/2]) }},
			{"Union", func() { dots.Union(l, m) }},
			{"Minus", func() { dots.Minus(whole, m) }},
			{"Last", func() { dots.Last(l, 3) }},
			{"Le", func() { dots.Le(l, whole) }},
		} {
			b.Run(fmt.Sprint(c.name, "/", many), func(b *testing.B) {
				for b.Loop() {
					c.call()
				}
			})
		}
	}
}
