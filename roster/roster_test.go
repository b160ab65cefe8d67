package roster_test

import (
	"fmt"
	"math"
	"math/rand"
	"slices"
	"testing"

	"deaddrop/api"
	"deaddrop/member"
	"deaddrop/roster"
)

const (
	add    = 1
	revoke = 2
	devs   = 8
	maxLog = 40
)

// records are Seq, Kind, Dev; Seq, Kind, Dev; and so on.
func records(n ...int) []api.Record {
	var l []api.Record
	for i := 0; i+2 < len(n); i += 3 {
		l = append(l, api.Record{Seq: n[i], Kind: n[i+1], Dev: n[i+2]})
	}
	return l
}

// numbered are Kind, Dev; Kind, Dev; and so on, with Seqs from 1 on.
func numbered(n ...int) []api.Record {
	var l []api.Record
	for i := 0; i+1 < len(n); i += 2 {
		l = append(l, api.Record{Seq: i/2 + 1, Kind: n[i], Dev: n[i+1]})
	}
	return l
}

// slowMembers is Members, as the words of 16.1 say it: of each device the last
// record that counts tells.
func slowMembers(log []api.Record, epoch int) []int {
	var l []int
	for dev := range devs {
		for i := len(log) - 1; i >= 0; i-- {
			r := log[i]
			if r.Seq > epoch || r.Dev != dev || r.Kind != add && r.Kind != revoke {
				continue
			}
			if r.Kind == add {
				l = append(l, dev)
			}
			break
		}
	}
	return l
}

// ends are numbers at the ends of int, and far from all others.
func ends() []int {
	return []int{math.MinInt, math.MinInt + 1, math.MinInt32 - 1, math.MinInt32, -1 << 16, -256, -129, -128, -9, -8, 255, 256, 257, 1 << 16, math.MaxInt32, math.MaxInt32 + 1, 1 << 32, 1<<32 + 1, math.MaxInt - 1, math.MaxInt}
}

// numbers are those of all devices, and such as are none.
func numbers() []int {
	l := ends()
	for dev := -3; dev < devs+4; dev++ {
		l = append(l, dev)
	}
	return l
}

// epochs are numbers around all Seqs of log, and the ends of int.
func epochs(log []api.Record) []int {
	l := append(ends(), -1, 0, 1)
	for _, r := range log {
		l = append(l, r.Seq, r.Seq-1, r.Seq+1)
	}
	slices.Sort(l)
	return slices.Compact(l)
}

// short is a text with what is too long in it cut.
func short(what any) string {
	text := fmt.Sprint(what)
	if len(text) > 1500 {
		return text[:1500] + ".."
	}
	return text
}

// tells tells the test whether these are who is one, by Members and by In.
func tells(t *testing.T, what string, log []api.Record, epoch int, want ...int) {
	t.Helper()
	if got := roster.Members(log, epoch); !slices.Equal(got, want) {
		t.Errorf("16.1: %s: Members at %d are %v, not %v: %s", what, epoch, got, want, short(log))
	}
	for _, dev := range numbers() {
		if got, is := roster.In(log, epoch, dev), slices.Contains(want, dev); got != is {
			t.Errorf("16.1: %s: In(%d) at %d is %v, not %v: %s", what, dev, epoch, got, is, short(log))
		}
	}
}

// heldAgainst tells the test whether all that is told of log is what the slow way
// tells, in each epoch that there may be.
func heldAgainst(t *testing.T, what string, log []api.Record) {
	t.Helper()
	for _, epoch := range epochs(log) {
		tells(t, what, log, epoch, slowMembers(log, epoch)...)
	}
}

// many are n records of a chain: all come, then one by one goes, and comes again.
func many(n int) []api.Record {
	var l []api.Record
	for i := range n {
		r := api.Record{Seq: i + 1, Kind: add, Dev: i}
		if i >= devs {
			r.Kind, r.Dev = revoke-i%2, (i-devs)/2%(devs-1)+1
		}
		l = append(l, r)
	}
	return l
}

// 16.1: who comes is one from that epoch on, who goes is none from that on.
func TestEpochs(t *testing.T) {
	log := numbered(add, 0, add, 3, add, 7, revoke, 3, add, 1, add, 3, revoke, 7, revoke, 1)
	for epoch, want := range map[int][]int{
		math.MinInt: nil, -1: nil, 0: nil, 1: {0}, 2: {0, 3}, 3: {0, 3, 7}, 4: {0, 7}, 5: {0, 1, 7}, 6: {0, 1, 3, 7}, 7: {0, 1, 3}, 8: {0, 3}, 9: {0, 3}, 100: {0, 3}, math.MaxInt: {0, 3},
	} {
		tells(t, "a chain", log, epoch, want...)
	}
	heldAgainst(t, "a chain", log)
	for n := range log {
		heldAgainst(t, "its beginning", log[:n])
		heldAgainst(t, "its end", log[n:])
	}
}

// 16.2: of no records nobody is one, whatever the epoch is.
func TestNoRecords(t *testing.T) {
	for _, log := range [][]api.Record{nil, {}, many(9)[:0], make([]api.Record, 0, 9)} {
		for _, epoch := range append(numbers(), maxLog, maxLog+1) {
			tells(t, "no records", log, epoch)
		}
	}
}

// 16.2: in an epoch below every Seq nobody is one.
func TestAhead(t *testing.T) {
	for _, c := range []struct {
		log    []api.Record
		lowest int
	}{
		{records(1, add, 0), 1},
		{many(8), 1},
		{many(maxLog), 1},
		{records(9, add, 1, 5, add, 2, 7, add, 3), 5},
		{records(2, add, 1, 2, add, 2), 2},
		{records(0, add, 0), 0},
		{records(-1, add, 4, 0, add, 5, 1, add, 6), -1},
		{records(-7, add, 1, -9, add, 2, -8, add, 3), -9},
		{records(1, add, 4, math.MaxInt, add, 5), 1},
		{records(math.MaxInt, add, 5), math.MaxInt},
		{records(math.MinInt+1, add, 5, math.MaxInt, add, 6), math.MinInt + 1},
	} {
		for _, epoch := range append(numbers(), c.lowest-1) {
			if epoch < c.lowest {
				tells(t, "ahead of all", c.log, epoch)
			}
		}
		if len(roster.Members(c.log, c.lowest)) == 0 {
			t.Errorf("16.1: in the epoch of a record nobody is one: %s", short(c.log))
		}
		heldAgainst(t, "ahead of all", c.log)
	}
}

// 16.1: records whose Seq is above the epoch say nothing, wherever they stand.
func TestAbove(t *testing.T) {
	log := records(1, add, 0, 2, add, 4, 3, add, 7, 4, revoke, 4)
	for epoch, want := range map[int][]int{0: nil, 1: {0}, 2: {0, 4}, 3: {0, 4, 7}, 4: {0, 7}} {
		for _, seq := range []int{epoch + 1, epoch + 2, 5, 41, 1 << 32, math.MaxInt} {
			for dev := range devs {
				for i := range len(log) + 1 {
					for _, kind := range []int{add, revoke} {
						other := slices.Insert(slices.Clone(log), i, api.Record{Seq: seq, Kind: kind, Dev: dev})
						tells(t, fmt.Sprint("one above put in at ", i), other, epoch, want...)
						heldAgainst(t, fmt.Sprint("one above put in at ", i), other)
					}
				}
			}
		}
	}
	tells(t, "those above ahead", records(9, add, 1, 8, revoke, 2, 1, add, 2), 7, 2)
	tells(t, "those above between", records(1, add, 2, 9, revoke, 2, 8, add, 3, 2, add, 5), 7, 2, 5)
	tells(t, "those above behind", records(1, add, 2, 2, add, 5, 9, revoke, 2, 8, add, 3), 7, 2, 5)
	tells(t, "those above everywhere", records(8, add, 1, 1, add, 2, 9, revoke, 2, 7, add, 3, 8, revoke, 3, 6, add, 5, 9, add, 6), 7, 2, 3, 5)
}

// 16.1: the records count in the order in which they stand, whatever their Seqs are.
func TestOrder(t *testing.T) {
	for _, c := range []struct {
		what string
		log  []api.Record
		want []int
	}{
		{"rising", records(1, add, 4, 2, revoke, 4), nil},
		{"falling", records(2, add, 4, 1, revoke, 4), nil},
		{"the same", records(1, add, 4, 1, revoke, 4), nil},
		{"rising, revoked first", records(1, revoke, 4, 2, add, 4), []int{4}},
		{"falling, revoked first", records(2, revoke, 4, 1, add, 4), []int{4}},
		{"the same, revoked first", records(2, revoke, 4, 2, add, 4), []int{4}},
		{"to and fro", records(3, add, 4, 5, revoke, 4, 1, add, 4, 4, add, 2), []int{2, 4}},
		{"to and fro, gone", records(3, add, 4, 1, add, 4, 5, add, 2, 2, revoke, 4), []int{2}},
		{"0", records(0, add, 4, 0, add, 1), []int{1, 4}},
		{"0 behind", records(1, add, 4, 0, revoke, 4), nil},
		{"below 0", records(-1, add, 4, -5, add, 1), []int{1, 4}},
		{"below 0 behind", records(1, add, 4, -5, revoke, 4, -7, add, 6), []int{6}},
		{"below 0 and above", records(-3, add, 4, 3, revoke, 4, -3, add, 4), []int{4}},
		{"at the ends", records(5, add, 4, math.MinInt, revoke, 4, math.MinInt, add, 6), []int{6}},
		{"far apart", records(math.MinInt, add, 1, 5, add, 4, -1<<40, revoke, 1, 2, add, 0), []int{0, 4}},
		{"with gaps", records(1, add, 4, 3, add, 2, 5, revoke, 4), []int{2}},
		{"one twice", records(1, add, 4, 1, add, 4, 2, add, 3, 2, add, 3), []int{3, 4}},
	} {
		tells(t, c.what, c.log, 5, c.want...)
		heldAgainst(t, c.what, c.log)
	}
	// A chain upside down: who went is one, who came only is one too.
	log := numbered(add, 0, add, 1, revoke, 1, add, 2)
	slices.Reverse(log)
	tells(t, "upside down", log, 4, 0, 1, 2)
	tells(t, "upside down", log, 3, 0, 1)
}

// 16.1: twice is as once; who is revoked ahead of being added is one behind it.
func TestTwice(t *testing.T) {
	for dev := range devs {
		for _, c := range []struct {
			what string
			log  []api.Record
			is   bool
		}{
			{"added", numbered(add, dev), true},
			{"added twice", numbered(add, dev, add, dev), true},
			{"added twice, revoked", numbered(add, dev, add, dev, revoke, dev), false},
			{"added thrice, revoked", numbered(add, dev, add, dev, add, dev, revoke, dev), false},
			{"revoked", numbered(revoke, dev), false},
			{"revoked twice", numbered(revoke, dev, revoke, dev), false},
			{"revoked ahead", numbered(revoke, dev, add, dev), true},
			{"revoked twice ahead", numbered(revoke, dev, revoke, dev, add, dev), true},
			{"added, revoked", numbered(add, dev, revoke, dev), false},
			{"added, revoked twice", numbered(add, dev, revoke, dev, revoke, dev), false},
			{"added again", numbered(add, dev, revoke, dev, add, dev), true},
			{"added again behind two", numbered(add, dev, revoke, dev, revoke, dev, add, dev), true},
			{"added again, revoked again", numbered(add, dev, revoke, dev, add, dev, revoke, dev), false},
			{"added again and again", numbered(add, dev, revoke, dev, add, dev, revoke, dev, add, dev), true},
		} {
			var want []int
			if c.is {
				want = []int{dev}
			}
			tells(t, c.what, c.log, len(c.log), want...)
			heldAgainst(t, c.what, c.log)
			// All others stay what they are.
			all := many(devs)
			for i := range c.log {
				c.log[i].Seq = devs + 1
			}
			want = nil
			for other := range devs {
				if other != dev || c.is {
					want = append(want, other)
				}
			}
			tells(t, c.what+", with all others", append(all, c.log...), devs+1, want...)
		}
	}
}

// kinds are such as say nothing.
func kinds() []int {
	return append(ends(), -2, -1, 0, 3, 4, 5, 6, 7, 8, 9, 1<<32+2, 256+1, 256+2, -1<<32+1, -1<<32+2)
}

// 16.1: kinds that are neither say nothing, whoever is one.
func TestKinds(t *testing.T) {
	for _, kind := range kinds() {
		what := fmt.Sprint("kind ", kind)
		for dev := range devs {
			tells(t, what+" alone", numbered(kind, dev), 1)
			tells(t, what+" behind", numbered(add, dev, kind, dev), 2, dev)
			tells(t, what+" ahead", numbered(kind, dev, add, dev), 2, dev)
			tells(t, what+" behind who went", numbered(add, dev, revoke, dev, kind, dev), 3)
			tells(t, what+" ahead of who goes", numbered(add, dev, kind, dev, revoke, dev), 3)
			heldAgainst(t, what, append(many(devs+1), api.Record{Seq: devs + 2, Kind: kind, Dev: dev}, api.Record{Seq: 1, Kind: kind, Dev: dev}))
		}
		tells(t, what+" of all", slices.Repeat(numbered(kind, 0, kind, 7), 20), 40)
	}
}

// 16.1: devices are from 0 to MaxDevs - 1; what says others does not count, but
// all that stands around it.
func TestDevs(t *testing.T) {
	for _, dev := range numbers() {
		what := fmt.Sprint("device ", dev)
		var want []int
		if dev >= 0 && dev < devs {
			want = []int{dev}
		}
		tells(t, what+" added", numbered(add, dev), 1, want...)
		tells(t, what+" revoked", numbered(revoke, dev), 1)
		tells(t, what+" added, revoked", numbered(add, dev, revoke, dev), 2)
		heldAgainst(t, what+" added among all", append(many(devs+1), records(10, add, dev)...))
		heldAgainst(t, what+" revoked among all", append(many(devs), records(10, revoke, dev)...))
		heldAgainst(t, what+" added ahead", append(records(1, add, dev), many(3)...))
		heldAgainst(t, what+" revoked ahead", append(records(1, revoke, dev), many(3)...))
		if want != nil {
			continue
		}
		tells(t, what+" added among all", append(many(devs), records(9, add, dev)...), 9, 0, 1, 2, 3, 4, 5, 6, 7)
		tells(t, what+" revoked among all", append(many(devs), records(9, revoke, dev)...), 9, 0, 1, 2, 3, 4, 5, 6, 7)
		tells(t, what+" between", numbered(add, 0, add, dev, add, 7, revoke, dev, add, 3), 5, 0, 3, 7)
		tells(t, what+" revoked between", numbered(revoke, dev, add, 2, revoke, dev, add, 6), 4, 2, 6)
	}
	tells(t, "none of these", numbered(add, -1, add, devs, add, -devs, add, 2*devs, add, 256), 5)
}

// 16.1: Members is rising, each once, in whatever order they came.
func TestRising(t *testing.T) {
	log := many(devs)
	tells(t, "from the first to the last", log, devs, 0, 1, 2, 3, 4, 5, 6, 7)
	slices.Reverse(log)
	for i := range log {
		log[i].Seq = i + 1
	}
	for epoch := range devs + 1 {
		var want []int
		for dev := devs - epoch; dev < devs; dev++ {
			want = append(want, dev)
		}
		tells(t, "from the last to the first", log, epoch, want...)
	}
	tells(t, "the last first", numbered(add, 7, add, 0), 2, 0, 7)
	tells(t, "each many times", slices.Repeat(log, 5), devs, 0, 1, 2, 3, 4, 5, 6, 7)
	// All orders of all devices.
	var orders func(l []api.Record, n int)
	orders = func(l []api.Record, n int) {
		if n == len(l) {
			if got := roster.Members(l, devs); !slices.Equal(got, []int{0, 1, 2, 3, 4, 5, 6, 7}) {
				t.Errorf("16.1: Members of %s are %v", short(l), got)
			}
			return
		}
		for i := n; i < len(l); i++ {
			l[n], l[i] = l[i], l[n]
			orders(l, n+1)
			l[n], l[i] = l[i], l[n]
		}
	}
	orders(log, 0)
}

// 16.1: each set of members can be, and In is true of just those.
func TestSets(t *testing.T) {
	for set := range 1 << devs {
		var log []api.Record
		var want []int
		for dev := range devs {
			kind := revoke
			if set>>dev&1 == 1 {
				kind = add
				want = append(want, dev)
			}
			log = append(log, api.Record{Seq: 1, Kind: kind, Dev: dev})
		}
		tells(t, "a set", log, 1, want...)
		slices.Reverse(log)
		tells(t, "a set from behind", log, 1, want...)
		tells(t, "a set behind all", append(many(devs), log...), devs, want...)
		tells(t, "a set behind none", append(records(1, revoke, 0, 1, revoke, 7), log...), devs, want...)
	}
}

// 16.1: all logs of few records.
func TestSmall(t *testing.T) {
	var all []api.Record
	for _, seq := range []int{0, 1, 2} {
		for _, kind := range []int{0, add, revoke, 3} {
			for _, dev := range []int{-1, 0, 7, 8} {
				all = append(all, api.Record{Seq: seq, Kind: kind, Dev: dev})
			}
		}
	}
	level := [][]api.Record{nil}
	for range 3 {
		var next [][]api.Record
		for _, log := range level {
			for _, r := range all {
				log := append(slices.Clone(log), r)
				next = append(next, log)
				for epoch := -1; epoch < 4; epoch++ {
					want := slowMembers(log, epoch)
					if got := roster.Members(log, epoch); !slices.Equal(got, want) {
						t.Fatalf("16.1: Members of %v at %d are %v, not %v", log, epoch, got, want)
					}
					for _, dev := range []int{-1, 0, 1, 7, 8} {
						if got := roster.In(log, epoch, dev); got != slices.Contains(want, dev) {
							t.Fatalf("16.1: In of %v at %d, %d is %v", log, epoch, dev, got)
						}
					}
				}
			}
		}
		level = next
	}
}

// 16.1: there may be any number of records, more than a chain has too.
func TestLong(t *testing.T) {
	for _, n := range []int{1, 2, 7, 8, 9, 39, 40, 41, 60, 255, 256, 257, 1000} {
		log := many(n)
		what := fmt.Sprint(n, " records")
		for _, epoch := range []int{0, 1, 7, 8, 9, 39, 40, 41, 59, 60, 61, n - 1, n, n + 1, math.MaxInt} {
			tells(t, what, log, epoch, slowMembers(log, epoch)...)
		}
		// The last one counts, and so does the first.
		last := append(slices.Repeat(records(1, revoke, 5), n-1), records(1, add, 5)...)
		tells(t, what+", the last adds", last, 1, 5)
		first := append(records(1, add, 5), slices.Repeat(records(1, add, 6), n-1)...)
		if got := roster.In(first, 1, 5); !got {
			t.Errorf("16.1: the first of %d records counts not", n)
		}
	}
	tells(t, "40", many(maxLog), maxLog, 0, 1, 2, 3, 4, 5, 6, 7)
	tells(t, "41", many(maxLog+1), maxLog+1, 0, 1, 2, 4, 5, 6, 7)
	tells(t, "41, the last above", many(maxLog+1), maxLog, 0, 1, 2, 3, 4, 5, 6, 7)
	tells(t, "60", many(60), 60, 0, 1, 2, 3, 4, 5, 6, 7)
	tells(t, "60, the last above", many(60), 59, 0, 1, 2, 3, 4, 6, 7)
}

// R1: of very many records too.
func TestVeryLong(t *testing.T) {
	log := slices.Repeat(many(50), 1<<14)
	tells(t, "very many", log, 50, slowMembers(log, 50)...)
	tells(t, "very many, all above", log, 0)
	tells(t, "very many of none", make([]api.Record, 1<<20), 0)
}

// anyNumber is a number of l, or one near 0.
func anyNumber(r *rand.Rand, l []int) int {
	if r.Intn(5) == 0 {
		return l[r.Intn(len(l))]
	}
	return r.Intn(13) - 2
}

// randomLog are records at random, most of them such that they count.
func randomLog(r *rand.Rand, n int) []api.Record {
	var log []api.Record
	for range n {
		one := api.Record{Seq: anyNumber(r, ends()), Kind: r.Intn(2) + add, Dev: r.Intn(devs), Prev: text(r), Tag: text(r)}
		if r.Intn(6) == 0 {
			one.Kind = anyNumber(r, kinds())
		}
		if r.Intn(6) == 0 {
			one.Dev = anyNumber(r, ends())
		}
		for range r.Intn(4) {
			one.Wraps = append(one.Wraps, api.Wrap{Dev: anyNumber(r, ends()), Box: text(r)})
		}
		log = append(log, one)
	}
	return log
}

// text is one at random.
func text(r *rand.Rand) string {
	b := make([]byte, r.Intn(40))
	r.Read(b)
	return string(b)
}

// 16.1 and R1: records at random.
func TestRandom(t *testing.T) {
	r := rand.New(rand.NewSource(16))
	for range 4000 {
		log := randomLog(r, r.Intn(15))
		heldAgainst(t, "at random", log)
		if t.Failed() {
			return
		}
	}
}

// 16.1: Prev, Wraps and Tag say nothing.
func TestOtherParts(t *testing.T) {
	r := rand.New(rand.NewSource(161))
	for range 200 {
		log := randomLog(r, 12)
		bare := slices.Clone(log)
		for i := range bare {
			bare[i] = api.Record{Seq: log[i].Seq, Kind: log[i].Kind, Dev: log[i].Dev}
		}
		for _, epoch := range epochs(log) {
			tells(t, "without its other parts", bare, epoch, roster.Members(log, epoch)...)
		}
	}
}

// 16.1: what comes behind in log changes no epoch ahead of it.
func TestPast(t *testing.T) {
	log := many(60)
	for n := range log {
		for epoch := range n + 1 {
			tells(t, "its beginning", log[:n], epoch, roster.Members(log, epoch)...)
		}
	}
}

// 16.1: behind a chain, who is none can be added, who is one revoked, but device 0.
func TestChains(t *testing.T) {
	log := many(maxLog)
	for i := range log {
		if i > 0 {
			log[i].Prev = member.Hash(log[i-1])
		}
		next := api.Record{Seq: i + 2, Prev: member.Hash(log[i])}
		ahead := log[:i+1]
		if !member.Check(ahead...) {
			t.Fatalf("the first %d are no chain", i+1)
		}
		for dev := range devs {
			is := roster.In(ahead, i+1, dev)
			next.Dev = dev
			next.Kind = add
			if got := member.Check(append(slices.Clone(ahead), next)...); got != (!is && i+1 < maxLog) {
				t.Errorf("16.1: In(%d) behind %d is %v, and another add %v", dev, i+1, is, got)
			}
			next.Kind = revoke
			if got := member.Check(append(slices.Clone(ahead), next)...); got != (is && dev != 0 && i+1 < maxLog) {
				t.Errorf("16.1: In(%d) behind %d is %v, and another revoke %v", dev, i+1, is, got)
			}
		}
	}
}

// copied is log, with all that hangs on it.
func copied(log []api.Record) []api.Record {
	out := slices.Clone(log)
	for i := range out {
		out[i].Wraps = slices.Clone(log[i].Wraps)
	}
	return out
}

// same tells whether a and b are alike in all parts.
func same(a, b []api.Record) bool {
	return slices.EqualFunc(a, b, func(a, b api.Record) bool {
		return a.Seq == b.Seq && a.Prev == b.Prev && a.Kind == b.Kind && a.Dev == b.Dev && a.Tag == b.Tag && slices.Equal(a.Wraps, b.Wraps)
	})
}

// R3: log is as it was, with its spare room, and so are its wraps.
func TestHandedIn(t *testing.T) {
	r := rand.New(rand.NewSource(163))
	for range 300 {
		all := randomLog(r, 20)
		for i := range all {
			all[i].Wraps = append(make([]api.Wrap, 0, 9), all[i].Wraps...)
			spare := all[i].Wraps[:9]
			for j := len(all[i].Wraps); j < 9; j++ {
				spare[j] = api.Wrap{Dev: 77, Box: "spare"}
			}
		}
		before := copied(all)
		log := all[:10]
		for _, epoch := range epochs(log) {
			want := slowMembers(before[:10], epoch)
			tells(t, "with spare room", log, epoch, want...)
		}
		if !same(all, before) {
			t.Fatalf("R3: log was %s, and is %s", short(before), short(all))
		}
		for i := range all {
			for _, w := range all[i].Wraps[:9][len(all[i].Wraps):] {
				if w != (api.Wrap{Dev: 77, Box: "spare"}) {
					t.Fatalf("R3: behind the wraps of record %d stands %v", i, w)
				}
			}
		}
	}
}

// R3: who writes into what was told, or behind it, changes nothing else.
func TestTold(t *testing.T) {
	for n := range 61 {
		log := many(n)
		want := slowMembers(log, n)
		var told [][]int
		for range 3 {
			l := roster.Members(log, n)
			for _, other := range told {
				if !slices.Equal(other, want) {
					t.Fatalf("R3: Members told before is %v, not %v", other, want)
				}
			}
			told = append(told, l)
		}
		for i := range told {
			all := told[i][:cap(told[i])]
			for j := range all {
				all[j] = -100 - i
			}
			for j := i + 1; j < len(told); j++ {
				if !slices.Equal(told[j], want) {
					t.Fatalf("R3: writing into what was told first makes what was told behind it %v, not %v", told[j], want)
				}
			}
			tells(t, "behind writing into what was told", log, n, want...)
		}
		for i, l := range told {
			for _, dev := range l[:cap(l)] {
				if dev != -100-i {
					t.Fatalf("R3: writing into what was told behind makes what was told first %v", l)
				}
			}
		}
		if !same(log, many(n)) {
			t.Fatalf("R3: writing into what was told makes log %s", short(log))
		}
	}
}

// R3: what is kept of log is nothing: another in its place is told anew.
func TestNotKept(t *testing.T) {
	log := numbered(add, 0, add, 1, add, 2)
	l := roster.Members(log, 3)
	tells(t, "one", log, 3, 0, 1, 2)
	copy(log, numbered(add, 5, add, 6, revoke, 5))
	tells(t, "another in its place", log, 3, 6)
	if !slices.Equal(l, []int{0, 1, 2}) {
		t.Errorf("R3: what was told before is %v", l)
	}
	tells(t, "a part of it", log[:2], 3, 5, 6)
	tells(t, "nothing of it", log[:0], 3)
}

// R5: two calls of one and the same tell the same, whatever was called between.
func TestAgain(t *testing.T) {
	r := rand.New(rand.NewSource(165))
	for range 300 {
		log, other := randomLog(r, r.Intn(20)), randomLog(r, r.Intn(20))
		epoch, dev := r.Intn(12), r.Intn(devs)
		l, is := roster.Members(log, epoch), roster.In(log, epoch, dev)
		roster.Members(other, epoch)
		roster.In(other, r.Intn(12), dev)
		if again := roster.Members(log, epoch); !slices.Equal(again, l) {
			t.Errorf("R5: Members of %s at %d are %v, then %v", short(log), epoch, l, again)
		}
		if again := roster.In(log, epoch, dev); again != is {
			t.Errorf("R5: In(%d) of %s at %d is %v, then %v", dev, short(log), epoch, is, again)
		}
		if alike := roster.Members(copied(log), epoch); !slices.Equal(alike, l) {
			t.Errorf("R5: Members of what is the same are %v, not %v", alike, l)
		}
	}
}

// fuzzed are records of bytes: three each, far ones too.
func fuzzed(b []byte) []api.Record {
	var log []api.Record
	for ; len(b) >= 3; b = b[3:] {
		n := func(b byte) int {
			if l := ends(); b >= 200 {
				return l[int(b-200)%len(l)]
			}
			return int(b)%16 - 4
		}
		log = append(log, api.Record{Seq: n(b[0]), Kind: n(b[1]), Dev: n(b[2]), Tag: string(b[:3])})
	}
	return log
}

func FuzzRoster(f *testing.F) {
	f.Add([]byte{}, 0, 0)
	f.Add([]byte{5, 5, 4, 6, 5, 11, 7, 6, 4}, 3, 7)
	f.Add([]byte{9, 5, 4, 1, 6, 4, 200, 5, 7, 5, 210, 8, 5, 5, 219}, 5, -1)
	f.Fuzz(func(t *testing.T, b []byte, epoch, dev int) {
		log := fuzzed(b)
		want := slowMembers(log, epoch)
		if got := roster.Members(log, epoch); !slices.Equal(got, want) {
			t.Errorf("16.1: Members of %s at %d are %v, not %v", short(log), epoch, got, want)
		}
		for _, dev := range []int{dev, dev % devs} {
			if got := roster.In(log, epoch, dev); got != slices.Contains(want, dev) {
				t.Errorf("16.1: In(%d) of %s at %d is %v", dev, short(log), epoch, got)
			}
		}
		if !same(log, fuzzed(b)) {
			t.Errorf("R3: log is %s", short(log))
		}
	})
}

func BenchmarkMembers(b *testing.B) {
	log := many(maxLog)
	for b.Loop() {
		roster.Members(log, maxLog)
	}
}

func BenchmarkIn(b *testing.B) {
	log := many(maxLog)
	for b.Loop() {
		roster.In(log, maxLog, 3)
	}
}
