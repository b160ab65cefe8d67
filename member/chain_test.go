package member_test

import (
	"fmt"
	"math/rand"
	"slices"
	"strings"
	"testing"

	"deaddrop/api"
	"deaddrop/member"
)

// deed is what a record does: who comes, or goes.
type deed struct{ kind, dev int }

// deeds are Kind, Dev; Kind, Dev; and so on.
func deeds(n ...int) []deed {
	var l []deed
	for i := 0; i+1 < len(n); i += 2 {
		l = append(l, deed{n[i], n[i+1]})
	}
	return l
}

// slowHash is the Hash of r by the library; of what may not be, that of no bytes.
func slowHash(r api.Record) string {
	if !slowMay(r) {
		return slowSum("")
	}
	return slowSum(slowPut(r))
}

// hung is log with each Seq, and each Prev, as 15.2 asks it.
func hung(log []api.Record) []api.Record {
	out := slices.Clone(log)
	for i := range out {
		out[i].Seq, out[i].Prev = i+1, ""
		if i > 0 {
			out[i].Prev = slowHash(out[i-1])
		}
	}
	return out
}

// chain are records of these deeds, one behind the other, with wraps of those
// who are members behind each.
func chain(l []deed) []api.Record {
	var log []api.Record
	var is [devs]bool
	for i, d := range l {
		r := rec(0, "", d.kind, d.dev, "")
		if i > 0 {
			r.Tag = fmt.Sprintf("tag %12d", i)
		}
		if d.dev >= 0 && d.dev < devs {
			is[d.dev] = d.kind == add
		}
		for dev, in := range is {
			if in {
				r.Wraps = append(r.Wraps, api.Wrap{Dev: dev, Box: fmt.Sprint("box ", i, dev)})
			}
		}
		log = append(log, r)
	}
	return hung(log)
}

// slowMembers tells whether these deeds are such that 15.2 lets each of them be.
func slowMembers(l []deed) bool {
	is := map[int]bool{}
	for i, d := range l {
		switch {
		case d.kind != add && d.kind != revoke:
			return false
		case i == 0 && d != deed{add, 0}:
			return false
		case (d.kind == add) == is[d.dev]:
			return false
		case d == deed{revoke, 0}:
			return false
		}
		is[d.dev] = d.kind == add
	}
	return true
}

// slowCheck is Check, as the words of 15.2 say it.
func slowCheck(log []api.Record) bool {
	var l []deed
	prev := ""
	for i, r := range log {
		if !slowMay(r) || r.Seq != i+1 || r.Prev != prev {
			return false
		}
		prev = slowHash(r)
		l = append(l, deed{r.Kind, r.Dev})
	}
	return len(log) <= maxLog && slowMembers(l)
}

// checked tells the test whether Check of log is this, which it tells.
func checked(t *testing.T, what string, log []api.Record, want bool) bool {
	t.Helper()
	if got := member.Check(log...); got != want {
		t.Errorf("15.2: Check of %s is %v: %s", what, got, short(log))
	}
	if slowCheck(log) != want {
		t.Errorf("15.2: %s, the slow way, is not %v: %s", what, want, short(log))
	}
	return want
}

// many are n deeds: all come, then one by one goes, and comes again.
func many(n int) []deed {
	l := deeds(add, 0, add, 1, add, 2, add, 3, add, 4, add, 5, add, 6, add, 7)
	for i := 0; len(l) < n; i++ {
		l = append(l, deed{revoke, i%7 + 1}, deed{add, i%7 + 1})
	}
	return l[:n]
}

// turns are n deeds: one and the same device comes and goes.
func turns(n, dev int) []deed {
	l := deeds(add, 0)
	for len(l) < n {
		l = append(l, deed{add, dev}, deed{revoke, dev})
	}
	return l[:n]
}

// right are chains, by their names.
func right() map[string][]api.Record {
	return map[string][]api.Record{
		"one":                chain(deeds(add, 0)),
		"two":                chain(deeds(add, 0, add, 1)),
		"two, the last":      chain(deeds(add, 0, add, 7)),
		"three":              chain(deeds(add, 0, add, 1, add, 2)),
		"come and gone":      chain(deeds(add, 0, add, 1, revoke, 1)),
		"come again":         chain(deeds(add, 0, add, 1, revoke, 1, add, 1)),
		"the other way":      chain(deeds(add, 0, add, 3, add, 1, revoke, 3, revoke, 1, add, 1, add, 3)),
		"all devices":        chain(many(8)),
		"all, one gone":      chain(many(9)),
		"39":                 chain(many(maxLog - 1)),
		"40":                 chain(many(maxLog)),
		"40 of two":          chain(turns(maxLog, 4)),
		"40 of two, at ends": chain(turns(maxLog, 7)),
	}
}

// 15.2: Check of no records is true, of chains as they should be too.
func TestRight(t *testing.T) {
	checked(t, "no records", nil, true)
	checked(t, "an empty list", []api.Record{}, true)
	if !member.Check() {
		t.Error("15.2: Check() is false")
	}
	for name, log := range right() {
		for n := range len(log) + 1 {
			checked(t, name, log[:n], true)
			if n < len(log) {
				checked(t, name+" without its beginning", log[n:], n == 0)
			}
		}
	}
}

// 15.2: there are at most MaxLog records.
func TestMost(t *testing.T) {
	for _, n := range []int{maxLog + 1, maxLog + 2, 2 * maxLog, 300} {
		checked(t, "too many", chain(many(n)), false)
		checked(t, "too many", chain(turns(n, 5)), false)
		checked(t, "as many as may be", chain(many(n))[:maxLog], true)
	}
	if member.Check(make([]api.Record, 1<<18)...) || member.Check(slices.Repeat(chain(deeds(add, 0)), 1<<18)...) {
		t.Error("15.2: Check of far too many is true")
	}
}

// 15.2: each chain of few deeds, which all hang as they should: who is a member
// can't be added, who is none can't be revoked, device 0 is added first and never
// revoked. 15.3: no two chains have one last Hash.
func TestDeeds(t *testing.T) {
	var all []deed
	for _, dev := range []int{0, 1, 2, 7} {
		all = append(all, deed{add, dev}, deed{revoke, dev})
	}
	last := map[string][]deed{}
	level, right := [][]deed{nil}, 0
	for n := 1; n <= 5; n++ {
		var next [][]deed
		for _, l := range level {
			for _, d := range all {
				l := append(slices.Clone(l), d)
				log := chain(l)
				next = append(next, l)
				if checked(t, fmt.Sprint(l), log, slowMembers(l)) {
					right++
				}
				hash := member.Hash(log[n-1])
				if other, ok := last[hash]; ok {
					t.Errorf("15.3: %v and %v have one last Hash", l, other)
				}
				last[hash] = l
			}
			if t.Failed() {
				return
			}
		}
		level = next
	}
	// One of one deed, 3 of two, then 3 more each: of the three others any.
	if want := 1 + 3 + 9 + 27 + 81; right != want {
		t.Errorf("15.2: %d chains are right, not %d", right, want)
	}
}

// 15.2: deeds that no record can do, in chains that else hang as they should.
func TestWrongDeeds(t *testing.T) {
	for _, l := range [][]deed{
		deeds(add, 1), deeds(revoke, 0), deeds(revoke, 1), deeds(add, 7), deeds(0, 0), deeds(3, 0), deeds(-1, 0), deeds(add, -1), deeds(add, 8), deeds(revoke, 8),
		deeds(add, 1, add, 0), deeds(add, 0, add, 0), deeds(add, 0, revoke, 0), deeds(add, 0, revoke, 1), deeds(add, 0, add, 8), deeds(add, 0, add, -1), deeds(add, 0, revoke, 8), deeds(add, 0, revoke, -1),
		deeds(add, 0, 0, 1), deeds(add, 0, 3, 1), deeds(add, 0, add, 1, add, 1), deeds(add, 0, add, 1, add, 0), deeds(add, 0, add, 1, revoke, 2), deeds(add, 0, add, 1, revoke, 0),
		deeds(add, 0, add, 1, revoke, 1, revoke, 1), deeds(add, 0, add, 1, revoke, 1, add, 1, add, 1), deeds(add, 0, add, 7, revoke, 7, revoke, 7), deeds(add, 0, add, 1, add, 2, revoke, 1, revoke, 0), deeds(add, 0, add, 1, add, 2, revoke, 2, revoke, 1, revoke, 0),
		deeds(add, 0, add, 1, add, 2, add, 3, add, 2), deeds(add, 0, add, 1, add, 257), deeds(add, 0, add, 1, revoke, 257), deeds(add, 0, add, 1, add+256, 2),
	} {
		checked(t, fmt.Sprint(l), chain(l), false)
	}
	for dev := range devs {
		checked(t, "all, and one once more", chain(append(many(devs), deed{add, dev})), false)
		checked(t, "all, and one gone", chain(append(many(devs), deed{revoke, dev})), dev != 0)
		checked(t, "nobody, and one gone", chain(append(many(1), deed{revoke, dev})), false)
		checked(t, "one first", chain(deeds(add, dev)), dev == 0)
		checked(t, "many, and one once more", chain(append(many(maxLog-2), deed{add, dev})), false)
	}
}

// turned are r, each with one part turned, by names that begin with the part's.
func turned(r api.Record) []named {
	of := func(do func(r *api.Record)) api.Record {
		other := r
		do(&other)
		return other
	}
	l := []named{
		{"Seq 0", of(func(r *api.Record) { r.Seq = 0 })},
		{"Seq above", of(func(r *api.Record) { r.Seq++ })},
		{"Seq below", of(func(r *api.Record) { r.Seq-- })},
		{"Seq far above", of(func(r *api.Record) { r.Seq += 256 })},
		{"Seq beyond", of(func(r *api.Record) { r.Seq += 1 << 32 })},
		{"Seq below 0", of(func(r *api.Record) { r.Seq = -r.Seq })},
		{"Prev another", of(func(r *api.Record) { r.Prev = hash })},
		{"Prev of noughts", of(func(r *api.Record) { r.Prev = strings.Repeat("\x00", hashSize) })},
		{"Prev the sum of nothing", of(func(r *api.Record) { r.Prev = slowSum("") })},
		{"Prev the own Hash", of(func(r *api.Record) { r.Prev = slowHash(*r) })},
		{"Prev longer", of(func(r *api.Record) { r.Prev += "\x00" })},
		{"Kind the other", of(func(r *api.Record) { r.Kind = 3 - r.Kind })},
		{"Kind none", of(func(r *api.Record) { r.Kind = 0 })},
		{"Kind beyond", of(func(r *api.Record) { r.Kind += 2 })},
		{"Dev none", of(func(r *api.Record) { r.Dev = -1 })},
		{"Dev beyond", of(func(r *api.Record) { r.Dev += devs })},
		{"Tag another", of(func(r *api.Record) { r.Tag = tag })},
		{"Tag shorter", of(func(r *api.Record) { r.Tag = tag[1:] })},
		{"Tag longer", of(func(r *api.Record) { r.Tag = tag + "x" })},
		{"Wraps of a device that there is not", of(func(r *api.Record) { r.Wraps = wraps(8, "x") })},
		{"Wraps of others", of(func(r *api.Record) { r.Wraps = wraps(5, "x", 6, "y") })},
		{"Wraps too long", of(func(r *api.Record) { r.Wraps = wraps(5, strings.Repeat("x", maxBox+1)) })},
	}
	for by := 1; by < devs; by++ {
		l = append(l, named{fmt.Sprint("Dev ", r.Dev^by), of(func(r *api.Record) { r.Dev ^= by })})
	}
	if r.Prev != "" {
		l = append(l, named{"Prev none", of(func(r *api.Record) { r.Prev = "" })}, named{"Prev shorter", of(func(r *api.Record) { r.Prev = r.Prev[1:] })})
		for _, at := range []int{0, 15, 31} {
			b := []byte(r.Prev)
			b[at] ^= 1
			l = append(l, named{fmt.Sprint("Prev at ", at), of(func(r *api.Record) { r.Prev = string(b) })})
		}
	}
	if r.Tag != "" {
		l = append(l, named{"Tag none", of(func(r *api.Record) { r.Tag = "" })})
	}
	if n := len(r.Wraps); n > 0 {
		l = append(l,
			named{"Wraps none", of(func(r *api.Record) { r.Wraps = nil })},
			named{"Wraps but one", of(func(r *api.Record) { r.Wraps = r.Wraps[1:] })},
			named{"Wraps one twice", of(func(r *api.Record) { r.Wraps = append(slices.Clone(r.Wraps), r.Wraps[n-1]) })},
			named{"Wraps with another box", of(func(r *api.Record) { r.Wraps = slices.Clone(r.Wraps); r.Wraps[n-1].Box += "x" })},
			named{"Wraps with an empty box", of(func(r *api.Record) { r.Wraps = slices.Clone(r.Wraps); r.Wraps[0].Box = "" })})
	}
	return l
}

// 15.2 and 15.3: with a part of one record turned, what was a chain is none; only
// of the last record Tag and Wraps may be others, or who it is of, and then it has
// another Hash.
func TestOneTurned(t *testing.T) {
	for name, log := range right() {
		end := len(log) - 1
		for i := range log {
			for _, c := range turned(log[i]) {
				other := slices.Clone(log)
				other[i] = c.r
				what := fmt.Sprint(name, ", record ", i, " with ", c.name)
				part, _, _ := strings.Cut(c.name, " ")
				want := false
				if i == end && slowMay(c.r) {
					want = part == "Tag" || part == "Wraps" || (part == "Kind" || part == "Dev") && slowCheck(other)
				}
				checked(t, what, other, want)
				if slowMay(c.r) && member.Hash(c.r) == member.Hash(log[i]) {
					t.Errorf("15.3: %s has the same Hash", what)
				}
				if i == end {
					continue
				}
				// Hung anew, it is another chain, or none: and the last one's Hash tells.
				other = hung(other)
				if checked(t, what+", hung anew", other, slowCheck(other)) && !sameLog(other, log) && member.Hash(other[end]) == member.Hash(log[end]) {
					t.Errorf("15.3: %s, hung anew, has the same last Hash", what)
				}
			}
		}
	}
}

// sameLog tells whether a and b are alike, record by record.
func sameLog(a, b []api.Record) bool {
	return slices.EqualFunc(a, b, slowSame)
}

// 15.2: with a record left out, or twice, or swapped with another, what was a
// chain is none, but what was left out is the last.
func TestMoved(t *testing.T) {
	for name, log := range right() {
		for i, r := range log {
			what := fmt.Sprint(name, ", record ", i)
			checked(t, what+" left out", slices.Delete(slices.Clone(log), i, i+1), i == len(log)-1)
			checked(t, what+" twice", slices.Insert(slices.Clone(log), i, r), false)
			checked(t, what+" at the end", append(slices.Clone(log), r), false)
			checked(t, what+" at the beginning", append([]api.Record{r}, log...), false)
			for j := range i {
				other := slices.Clone(log)
				other[i], other[j] = other[j], other[i]
				checked(t, fmt.Sprint(what, " swapped with ", j), other, false)
				other = slices.Clone(log)
				other[i] = other[j]
				checked(t, fmt.Sprint(what, " is ", j), other, false)
			}
			for end := i + 1; end <= len(log); end++ {
				other := slices.Delete(slices.Clone(log), i, end)
				checked(t, fmt.Sprint(what, " to ", end, " left out"), other, end == len(log))
			}
		}
	}
}

// 15.2: so it is with a record put in, however it hangs there, but at the end.
func TestPutIn(t *testing.T) {
	for name, log := range right() {
		for i := range len(log) + 1 {
			for _, d := range deeds(add, 0, revoke, 0, add, 1, revoke, 1, add, 4, revoke, 4, add, 7, revoke, 7) {
				r := rec(i+1, "", d.kind, d.dev, tag)
				if i > 0 {
					r.Prev = member.Hash(log[i-1])
				}
				other := slices.Insert(slices.Clone(log), i, r)
				checked(t, fmt.Sprint(name, ": ", d, " put in at ", i), other, i == len(log) && slowCheck(other))
				other = hung(other)
				checked(t, fmt.Sprint(name, ": ", d, " put in at ", i, ", hung anew"), other, slowCheck(other))
				if i == len(log) {
					continue
				}
				other = slices.Clone(log)
				other[i] = r
				checked(t, fmt.Sprint(name, ": ", d, " instead of ", i), other, i == len(log)-1 && slowCheck(other))
			}
			for _, c := range good() {
				other := slices.Insert(slices.Clone(log), i, c.r)
				checked(t, fmt.Sprint(name, ": ", c.name, " put in at ", i), other, slowCheck(other))
			}
		}
	}
}

// 15.2: records that may not be are of no chain, wherever they stand.
func TestWrongRecords(t *testing.T) {
	log := chain(deeds(add, 0, add, 1, add, 2))
	for _, c := range wrong() {
		for i := range len(log) + 1 {
			other := slices.Insert(slices.Clone(log), i, c.r)
			checked(t, c.name, other, false)
			checked(t, c.name+", hung", hung(other), slowCheck(hung(other)))
		}
	}
	// What hangs on one that may not be hangs on the sum of nothing.
	r := rec(1, "", add, 0, "x")
	checked(t, "on a wrong one", []api.Record{r, rec(2, member.Hash(r), add, 1, tag)}, false)
	checked(t, "on none", []api.Record{rec(2, member.Hash(r), add, 0, tag)}, false)
	checked(t, "the first on the sum of nothing", []api.Record{rec(1, member.Hash(r), add, 0, tag)}, false)
}

// 15.3: of chains by deeds at random, those with one last Hash are one, and each
// record of the one is that of the other.
func TestLastHash(t *testing.T) {
	r := rand.New(rand.NewSource(15))
	last := map[string][]api.Record{}
	rights := 0
	for range 3000 {
		log := randomChain(r, r.Intn(12)+1)
		if !checked(t, "at random", log, slowCheck(log)) {
			continue
		}
		rights++
		hash := member.Hash(log[len(log)-1])
		if other, ok := last[hash]; ok && !sameLog(log, other) {
			t.Errorf("15.3: %s and %s have one last Hash", short(log), short(other))
		}
		last[hash] = log
	}
	if rights < 1000 || len(last) < 500 {
		t.Errorf("only %d chains are right, with %d last Hashes", rights, len(last))
	}
}

// randomChain are n records that hang as they should, most of which do what they
// may.
func randomChain(r *rand.Rand, n int) []api.Record {
	var is [devs]bool
	log := []api.Record{rec(0, "", add, 0, "")}
	for len(log) < n {
		one := rec(0, "", add, r.Intn(devs-1)+1, []string{"", tag}[r.Intn(2)])
		if is[one.Dev] {
			one.Kind = revoke
		}
		if r.Intn(30) == 0 {
			one.Kind, one.Dev = r.Intn(4), r.Intn(devs+1)
		}
		if r.Intn(2) == 0 {
			one.Wraps = wraps(r.Intn(4), "x", r.Intn(4)+4, "y")
		}
		if one.Dev < devs {
			is[one.Dev] = one.Kind == add
		}
		log = append(log, one)
	}
	return hung(log)
}

// R3: what Check is handed stays as it was, behind its end too.
func TestCheckMemory(t *testing.T) {
	logs := right()
	logs["too many"] = chain(many(maxLog + 1))
	logs["none"] = chain(deeds(add, 0, add, 0))
	logs["one that may not be"] = []api.Record{rec(1, "x", 9, 9, "x", wraps(9, "x", 1, "y")...)}
	for name, log := range logs {
		given := guarded(log, rec(9, "behind", 9, 9, "behind"))
		for i, r := range given {
			given[i] = guard(r)
		}
		show := func() string {
			text := fmt.Sprintf("%#v", given[len(given):len(given)+room])
			for _, r := range given {
				text += shown(r)
			}
			return text
		}
		was := show()
		if got := member.Check(given...); got != slowCheck(log) || show() != was {
			t.Errorf("R3: Check of %s turned what it was handed", name)
		}
		// What it told hangs on nothing that was kept.
		for _, r := range given {
			spoil(r)
		}
		if member.Check(log...) != slowCheck(log) {
			t.Errorf("R3: Check of %s keeps what it was handed", name)
		}
	}
}

// R5: the same calls tell the same, whatever was called in between.
func TestAgain(t *testing.T) {
	l := append(good(), wrong()...)
	logs := [][]api.Record{nil, chain(many(maxLog)), chain(many(maxLog + 1)), chain(deeds(add, 0, add, 1, revoke, 1)), chain(deeds(add, 0, revoke, 0))}
	say := func() string {
		text := ""
		for i, c := range l {
			b := member.Put(c.r)
			r, ok := member.Get(b)
			other, too := member.Get(slowPut(c.r))
			text += fmt.Sprintf("%v %x %x %x %v %v %v %v %v\n", member.May(c.r), b, member.Head(c.r), member.Hash(c.r), r, ok, other, too, member.Same(c.r, l[i/2].r))
		}
		for _, log := range logs {
			text += fmt.Sprintln(member.Check(log...))
		}
		return text
	}
	first := say()
	for i := range 5 {
		member.Check(chain(turns(i+1, i+1))...)
		r, _ := member.Get(slowPut(l[i].r))
		spoil(r)
		member.Get("\x03" + first[:i])
		if say() != first {
			t.Fatal("R5: the same calls tell another")
		}
	}
}

// logOf is a list of records by bytes: most of them hang as they should.
func logOf(x []byte) []api.Record {
	log := []api.Record{rec(1, "", add, 0, "")}
	for len(x) > 1 && len(log) < maxLog+2 {
		log = append(log, rec(0, "", int(x[0])%2+1, int(x[0]/2)%devs, tag, wraps(int(x[1])%devs, "b")...))
		x = x[2:]
	}
	log = hung(log)
	if len(x) == 0 {
		return log
	}
	if i := int(x[0]) % len(log); x[0] > 99 {
		l := turned(log[i])
		log[i] = l[int(x[0])%len(l)].r
	}
	return log
}

// 15.1 to 15.3, held against a slow way.
func FuzzMember(f *testing.F) {
	for _, c := range append(good(), wrong()...) {
		f.Add(slowPut(c.r), []byte{})
	}
	f.Add("", []byte{3, 0, 2, 2, 0, 7, 4, 1, 1, 2, 3, 5})
	f.Add("\x03", []byte{2, 1, 4, 2, 3, 3, 150})
	f.Add("", []byte("a record by its bytes"))
	f.Fuzz(func(t *testing.T, b string, x []byte) {
		heldAgainst(t, "bytes", b)
		held(t, "a record", scattered(x))
		held(t, "a record", sorted(scattered(x)))
		log := logOf(x)
		checked(t, "a chain", log, slowCheck(log))
		if r, ok := member.Get(b); ok {
			checked(t, "a chain", []api.Record{r}, slowCheck([]api.Record{r}))
		}
	})
}

func BenchmarkMember(b *testing.B) {
	r := rec(2, hash, add, 3, tag, everyone(60)...)
	put := member.Put(r)
	b.Run("Put", func(b *testing.B) {
		b.SetBytes(int64(len(put)))
		for b.Loop() {
			member.Put(r)
		}
	})
	b.Run("Get", func(b *testing.B) {
		b.SetBytes(int64(len(put)))
		for b.Loop() {
			member.Get(put)
		}
	})
	b.Run("Hash", func(b *testing.B) {
		b.SetBytes(int64(len(put)))
		for b.Loop() {
			member.Hash(r)
		}
	})
	log := chain(many(maxLog))
	b.Run(fmt.Sprint("Check/", maxLog), func(b *testing.B) {
		for b.Loop() {
			member.Check(log...)
		}
	})
}
