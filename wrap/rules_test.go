package wrap_test

import (
	"fmt"
	"math"
	"math/rand"
	"slices"
	"strings"
	"testing"
	"unsafe"

	"deaddrop/api"
	"deaddrop/wrap"
)

// room is how much is behind the end of what guarded tells.
const room = 3

// guarded is a copy of l with room behind its end, which is filled.
func guarded[T any](l []T, fill T) []T {
	return append(slices.Clone(l), slices.Repeat([]T{fill}, room)...)[:len(l)]
}

// guard is r in other memory, its list guarded.
func guard(r api.Record) api.Record {
	r.Prev, r.Tag, r.Wraps = strings.Clone(r.Prev), strings.Clone(r.Tag), guarded(r.Wraps, api.Wrap{Dev: 4, Box: "behind"})
	for i, w := range r.Wraps {
		r.Wraps[i].Box = strings.Clone(w.Box)
	}
	return r
}

// guardLog is log in other memory, all its lists guarded.
func guardLog(log []api.Record) []api.Record {
	out := guarded(log, rec(9, "behind", 9, 9, "behind"))
	for i, r := range out {
		out[i] = guard(r)
	}
	return out
}

// guardKeys are keys in other memory, guarded.
func guardKeys(l []api.EpochKey) []api.EpochKey {
	out := guarded(l, api.EpochKey{Epoch: 9, Key: "behind"})
	for i, k := range out {
		out[i].Key = strings.Clone(k.Key)
	}
	return out
}

// shown tells all of r, which is guarded, with the room behind its list.
func shown(r api.Record) string {
	n := len(r.Wraps)
	r.Wraps = r.Wraps[:n+room]
	return fmt.Sprintf("%d: %#v\n", n, r)
}

// shownAll tells all of a guarded log and guarded keys.
func shownAll(log []api.Record, had []api.EpochKey) string {
	text := fmt.Sprintf("%d, %d: %#v, %#v\n", len(log), len(had), log[len(log):len(log)+room], had[:len(had)+room])
	for _, r := range log {
		text += shown(r)
	}
	return text
}

// spoil writes into all of l, and its spare room, and behind it.
func spoil[T any](l []T, with T) {
	_ = append(l, with)
	all := l[:cap(l)]
	for i := range all {
		all[i] = with
	}
}

// spoilRecord writes into all of r's list.
func spoilRecord(r api.Record) {
	spoil(r.Wraps, api.Wrap{Dev: -9, Box: "spoilt"})
}

// spoilAll writes into all lists of a log, and into keys.
func spoilAll(log []api.Record, had []api.EpochKey) {
	for _, r := range log {
		spoilRecord(r)
	}
	spoil(log, rec(-9, "spoilt", -9, -9, "spoilt"))
	spoil(had, api.EpochKey{Epoch: -9, Key: "spoilt"})
}

// overlap tells whether a and b share memory.
func overlap(a, b string) bool {
	if a == "" || b == "" {
		return false
	}
	x, y := uintptr(unsafe.Pointer(unsafe.StringData(a))), uintptr(unsafe.Pointer(unsafe.StringData(b)))
	return x < y+uintptr(len(b)) && y < x+uintptr(len(a))
}

// texts are all those of a log and of keys that have memory of their own: of one
// byte, or none, a text has none.
func texts(log []api.Record, had []api.EpochKey) []string {
	var l []string
	for _, r := range log {
		l = append(l, r.Prev, r.Tag)
		for _, w := range r.Wraps {
			l = append(l, w.Box)
		}
	}
	for _, k := range had {
		l = append(l, k.Key)
	}
	return slices.DeleteFunc(l, func(text string) bool { return len(text) < 2 })
}

// apart tells the test that no text of a shares memory with one of b.
func apart(t *testing.T, what string, a, b []string) {
	t.Helper()
	for _, text := range a {
		for _, other := range b {
			if overlap(text, other) {
				t.Errorf("R3: %s: %x and %x share memory", what, text, other)
				return
			}
		}
	}
}

// R3: what Make is handed stays as it was, behind its end too; what it tells stays
// as it is whoever writes into that, or into what was told before.
func TestMakeMemory(t *testing.T) {
	logs := chains()
	for name, log := range broken() {
		logs["broken: "+name] = log
	}
	for name, log := range logs {
		for _, d := range append(deeds(add, 0, add, 3, add, 1, add, 6, revoke, 3, revoke, 0, revoke, 6, add, -1, 3, 1), deed{math.MinInt, math.MaxInt}) {
			what := fmt.Sprint(name, " and ", d)
			given := guardLog(log)
			was := shownAll(given, make([]api.EpochKey, 0, room))
			want, number := slowMake(secret, master, log, d.kind, d.dev)
			first, e := wrap.Make(secret, master, given, d.kind, d.dev)
			second, _ := wrap.Make(secret, master, given, d.kind, d.dev)
			if e != number || shownAll(given, make([]api.EpochKey, 0, room)) != was {
				t.Errorf("R3: %s: Make turned what it was handed", what)
			}
			if e == api.OK {
				own := texts([]api.Record{first}, nil)
				apart(t, what, own, append(texts(given, nil), secret, master))
				apart(t, what, own, texts([]api.Record{second}, nil))
			}
			spoilRecord(first)
			if !same(second, want) {
				t.Errorf("R3: %s: two answers of Make share memory", what)
			}
			if shownAll(given, make([]api.EpochKey, 0, room)) != was {
				t.Errorf("R3: %s: what Make told shares memory with log", what)
			}
			spoilAll(given, nil)
			if !same(second, want) {
				t.Errorf("R3: %s: what Make told keeps of log", what)
			}
			heldMake(t, what+", again", secret, master, log, d.kind, d.dev)
		}
	}
}

// R3: so it is with Open and Tag.
func TestOpenMemory(t *testing.T) {
	own, key := ownOf(master, 0), strings.Clone(secret)
	for i, r := range append(append(good(), wrong()...), chain(add, 0, add, 3, add, 1, revoke, 3)...) {
		given := guard(r)
		was := shown(given)
		want, is := slowOpen(own, r, 0)
		wantTag := slowTag(key, r)
		if !is {
			want = ""
		}
		var keys, tags []string
		for range 3 {
			got, ok := wrap.Open(own, given, 0)
			tag := wrap.Tag(key, given)
			if got != want || ok != is || tag != wantTag {
				t.Errorf("R5: record %d opens to %x, %v, has the Tag %x", i, got, ok, tag)
			}
			apart(t, "what Open and Tag told", []string{got, tag}, append(texts([]api.Record{given}, nil), own, key))
			apart(t, "what Open told", []string{got}, keys)
			apart(t, "what Tag told", []string{tag}, tags)
			keys, tags = append(keys, got), append(tags, tag)
		}
		if shown(given) != was {
			t.Errorf("R3: Open or Tag turned record %d", i)
		}
		spoilRecord(given)
		if keys[0] != want || tags[0] != wantTag {
			t.Errorf("R3: what Open or Tag told of record %d keeps of it", i)
		}
	}
}

// taking is what Take is handed.
type taking struct {
	what string
	log  []api.Record
	had  []api.EpochKey
	own  string
	id   int
	r    api.Record
}

// takings are such as each number is told of.
func takings() []taking {
	log := chain(add, 0, add, 3, add, 1, revoke, 3, add, 3)
	own := ownOf(master, 3)
	full := chainOf(secret, master, turns(maxLog, 5))
	l := []taking{
		{"taken", log[:4], keysOf(2, 3), own, 3, log[4]},
		{"taken with the key ahead", log[:2], keysOf(2), own, 3, log[2]},
		{"taken by who is none", log[:3], keysOf(2, 3), own, 3, log[3]},
		{"taken by nobody", log[:4], nil, "", -1, log[4]},
		{"the first", nil, nil, ownOf(master, 0), 0, log[0]},
		{"the first, by another", nil, nil, own, 3, log[0]},
		{"the 40th", full[:39], keysOf(1, 2, 3, 4, 39), ownOf(master, 5), 5, full[39]},
		{"no chain", log[1:], keysOf(2, 3), own, 3, log[4]},
		{"zeros", make([]api.Record, 5), make([]api.EpochKey, 5), own, 3, api.Record{}},
		{"keys that fall", log[:4], keysOf(3, 2), own, 3, log[4]},
		{"a replay", log, keysOf(2, 3), own, 3, log[2]},
		{"a fork", log, keysOf(2, 3), own, 3, tagged(log[2], "x")},
		{"beyond", log[:2], keysOf(2), own, 3, log[3]},
		{"behind a full log", full, keysOf(1, 2, 3), own, 3, rec(41, slowHash(full[39]), add, 1, tag, wraps(0, "x")...)},
		{"another Tag", log[:2], keysOf(2), own, 3, tagged(log[2], "x")},
		{"no wrap", log[:2], keysOf(1), "another", 3, log[2]},
	}
	for i, r := range wrong() {
		l = append(l, taking{fmt.Sprint("what may not be, ", i), log[:3], keysOf(2, 3), own, 3, r})
	}
	for name, log := range broken() {
		l = append(l, taking{"broken: " + name, log, keysOf(1, 2), own, 3, rec(1, "", add, 0, "")})
	}
	return l
}

// R3: what Take is handed stays as it was, behind its end too, whatever it tells;
// what it tells is in memory of its own.
func TestTakeMemory(t *testing.T) {
	for _, c := range takings() {
		log, had, r := guardLog(c.log), guardKeys(c.had), guard(c.r)
		show := func() string { return shownAll(log, had) + shown(r) }
		was := show()
		wantLog, wantKeys, want := slowTake(c.log, c.had, c.own, c.id, c.r)
		l, k, e := wrap.Take(log, had, c.own, c.id, r)
		l2, k2, _ := wrap.Take(log, had, c.own, c.id, r)
		if e != want || show() != was {
			t.Errorf("R3: %s: Take turned what it was handed", c.what)
		}
		given := append(append(texts(log, had), texts([]api.Record{r}, nil)...), c.own)
		apart(t, c.what, texts(l, k), given)
		apart(t, c.what+", twice", texts(l, k), texts(l2, k2))
		spoilAll(l, k)
		if show() != was {
			t.Errorf("R3: %s: what Take told shares memory with what it was handed", c.what)
		}
		if !sameLog(l2, wantLog) || !slices.Equal(k2, wantKeys) {
			t.Errorf("R3: %s: two answers of Take share memory", c.what)
		}
		spoilAll(log, had)
		spoilRecord(r)
		if !sameLog(l2, wantLog) || !slices.Equal(k2, wantKeys) {
			t.Errorf("R3: %s: what Take told keeps what was handed in", c.what)
		}
	}
}

// R3: no two lists of one answer share memory: each is filled, with its spare room,
// and all are as they were filled.
func TestListsApart(t *testing.T) {
	fill := func(r api.Record, n int) {
		spoil(r.Wraps, api.Wrap{Dev: n, Box: "filled"})
	}
	for _, c := range takings() {
		l, k, _ := wrap.Take(guardLog(c.log), guardKeys(c.had), c.own, c.id, guard(c.r))
		for i, r := range l {
			fill(r, i+100)
		}
		spoil(k, api.EpochKey{Epoch: 99, Key: "filled"})
		for i, r := range l {
			for _, w := range r.Wraps[:cap(r.Wraps)] {
				if w != (api.Wrap{Dev: i + 100, Box: "filled"}) {
					t.Errorf("R3: %s: the wraps of record %d share memory with others", c.what, i)
				}
			}
		}
		for _, one := range k[:cap(k)] {
			if one.Epoch != 99 {
				t.Errorf("R3: %s: keys share memory with others", c.what)
			}
		}
	}
}

// R4: beside an error of Make and a false of Open there is nothing; beside one of
// Take there are log and keys.
func TestBesideErrors(t *testing.T) {
	for _, c := range takings() {
		l, k, e := wrap.Take(c.log, c.had, c.own, c.id, c.r)
		if e != api.OK && (!sameLog(l, c.log) || !slices.Equal(k, c.had)) {
			t.Errorf("17.3: %s: beside %d Take tells %d records, %s", c.what, e, len(l), short(k))
		}
		if e == api.OK && (len(l) != len(c.log)+1 || !same(l[len(c.log)], c.r) || !sameLog(l[:len(c.log)], c.log)) {
			t.Errorf("17.3: %s: Take tells %d records", c.what, len(l))
		}
		if key, ok := wrap.Open(c.own, c.r, c.id); !ok && key != "" {
			t.Errorf("R4: %s: beside a false Open tells %x", c.what, key)
		}
		for _, d := range deeds(add, 0, add, 1, revoke, 0, revoke, 1, revoke, 3, add, 7) {
			if r, e := wrap.Make(secret, master, c.log, d.kind, d.dev); e != api.OK && (r.Wraps != nil || !same(r, api.Record{})) {
				t.Errorf("R4: %s: beside %d Make tells %s", c.what, e, short(r))
			}
		}
	}
}

// R5: two calls of one and the same tell the same, whatever was called between.
func TestAgain(t *testing.T) {
	l := takings()
	say := func() string {
		text := ""
		for i, c := range l {
			log, had, e := wrap.Take(c.log, c.had, c.own, c.id, c.r)
			key, ok := wrap.Open(c.own, c.r, c.id)
			text += fmt.Sprintln(i, log, had, e, key, ok, wrap.Tag(c.own, c.r))
			for dev := range devs {
				r, e := wrap.Make(c.own, master, c.log, dev%3, dev)
				text += fmt.Sprintln(r, e)
			}
		}
		return text
	}
	first := say()
	for i := range 5 {
		wrap.Make(fmt.Sprint(i), master, nil, add, 0)
		wrap.Take(nil, nil, "", i, rec(i, "", add, i, ""))
		wrap.Open(fmt.Sprint(i), chain(add, 0)[0], 0)
		wrap.Tag(fmt.Sprint(i), chain(add, 0)[0])
		if say() != first {
			t.Fatal("R5: the same calls tell another")
		}
	}
}

// R1: what is far too long comes to an end soon, and so does what is of all kinds.
func TestLong(t *testing.T) {
	long := strings.Repeat("x", 1<<24)
	manyWraps := make([]api.Wrap, 1<<20)
	for i := range manyWraps {
		manyWraps[i] = api.Wrap{Dev: i}
	}
	manyKeys := make([]api.EpochKey, 1<<20)
	for i := range manyKeys {
		manyKeys[i].Epoch = i
	}
	log := chain(add, 0, add, 3)
	next := slowNext(secret, master, log, add, 1)
	for i, r := range []api.Record{
		rec(3, long, add, 0, ""), rec(3, next.Prev, add, 1, long), rec(3, next.Prev, add, 1, "", wraps(0, long)...), rec(3, next.Prev, add, 1, "", manyWraps...),
		rec(math.MaxInt, long, math.MinInt, math.MinInt, long, manyWraps...),
	} {
		if tag := wrap.Tag(long, r); tag != "" {
			t.Errorf("17.1: Tag of what is too long, %d, is %x", i, tag)
		}
		shut(t, "what is too long", long, r, 0)
		takes(t, "what is too long", log, keysOf(2), long, 0, r, []api.Errno{api.ErrFork, api.ErrEpoch}[i/4], 0)
		made(t, "what is too long", []api.Record{r}, add, 0, api.ErrArg)
	}
	// A wrap may be that of any number.
	shut(t, "many wraps", "", rec(3, next.Prev, add, 1, "", manyWraps...), 1<<20-1)
	many := make([]api.Record, 1<<18)
	made(t, "very many records", many, add, 0, api.ErrArg)
	takes(t, "very many records", many, nil, "", 0, next, api.ErrArg, 0)
	takes(t, "very many records that hang", slices.Repeat(log, 1<<16), nil, "", 0, next, api.ErrArg, 0)
	takes(t, "very many keys", log, manyKeys, ownOf(master, 0), 0, tagged(next, ""), api.OK, 1)
	takes(t, "very many keys, another Tag", log, manyKeys, ownOf(master, 0), 0, next, api.ErrTag, 0)
	takes(t, "very many keys of one epoch", log, make([]api.EpochKey, 1<<20), ownOf(master, 0), 0, next, api.ErrArg, 0)
	if got := wrap.Tag(long, next); got != slowTag(long, next) {
		t.Errorf("17.1: Tag by a long key is %x", got)
	}
	if e := heldMake(t, "long keys", long, long, log, add, 1); e != api.OK {
		t.Errorf("17.1: by long keys Make tells %d", e)
	}
	takes(t, "a long key", log, held(2, long), ownOf(master, 0), 0, tagged(next, long), api.OK, 1)
}

// R1: no call panics, whatever it is given: parts at random.
func TestParts(t *testing.T) {
	r := rand.New(rand.NewSource(171))
	numbers := []int{0, 1, 2, 3, 4, 5, 7, 8, -1, 39, 40, 41, 1 << 20, 1 << 32, math.MinInt, math.MaxInt}
	number := func() int { return numbers[r.Intn(len(numbers))] }
	text := func() string { return rising(byte(r.Intn(256)), []int{0, 1, 15, 16, 31, 32, 33, 48, 201}[r.Intn(9)]) }
	record := func() api.Record {
		one := rec(number(), text(), r.Intn(4), number(), text())
		for range r.Intn(4) {
			one.Wraps = append(one.Wraps, api.Wrap{Dev: number(), Box: text()})
		}
		return one
	}
	for range 20000 {
		var log []api.Record
		for range r.Intn(4) {
			log = append(log, record())
		}
		if r.Intn(2) == 0 {
			log = chain(add, 0, add, 3)[:r.Intn(3)]
		}
		var had []api.EpochKey
		for range r.Intn(3) {
			had = append(had, api.EpochKey{Epoch: number(), Key: text()})
		}
		one, own, id := record(), text(), number()
		heldTake(t, "parts at random", log, had, own, id, one)
		heldMake(t, "parts at random", own, text(), log, r.Intn(4), number())
		if key, ok := wrap.Open(own, one, id); ok || key != "" {
			t.Errorf("17.2: %s opens to %x", short(one), key)
		}
		if got := wrap.Tag(own, one); got != slowTag(own, one) {
			t.Errorf("17.1: Tag of %s is %x", short(one), got)
		}
		if t.Failed() {
			return
		}
	}
}

// fuzzed is a log by bytes, each of which is a deed.
func fuzzed(b []byte) []api.Record {
	var log []api.Record
	for i := 0; i < len(b) && i < maxLog+2; i++ {
		log = append(log, slowNext(secret, master, log, int(b[i])/devs%2+add, int(b[i])%devs))
	}
	return log
}

// 17.1 to 17.3, held against a slow way.
func FuzzWrap(f *testing.F) {
	f.Add([]byte{0, 3, 1, 11, 3}, uint(4), uint(0), 3, "own", []byte{2, 3}, uint(0))
	f.Add([]byte{0, 7, 15}, uint(2), uint(5), 7, "", []byte{}, uint(2))
	f.Add([]byte{0, 1, 2, 3, 4, 5, 6, 7, 9}, uint(9), uint(9), 0, "x", []byte{9, 7}, uint(33))
	f.Fuzz(func(t *testing.T, b []byte, n, turn uint, id int, text string, epochs []byte, at uint) {
		whole := fuzzed(b)
		log := whole[:n%uint(len(whole)+1)]
		var r api.Record
		if len(whole) > 0 {
			r = whole[at%uint(len(whole))]
		}
		// Most of them as they are: some with a part turned.
		all := turned(r)
		var names []string
		for name := range all {
			names = append(names, name)
		}
		slices.Sort(names)
		if i := int(turn % uint(2*len(names)+1)); i < len(names) {
			r = all[names[i]]
		}
		var had []api.EpochKey
		for _, epoch := range epochs {
			key := epochKey(secret, int(epoch)%64)
			if epoch >= 200 {
				key = text
			}
			had = append(had, api.EpochKey{Epoch: int(epoch) % 64, Key: key})
		}
		for _, own := range []string{text, ownOf(master, id), ownOf(master, id%devs)} {
			for _, dev := range []int{id, id % devs} {
				heldTake(t, "by bytes", log, had, own, dev, r)
				want, ok := slowOpen(own, r, dev)
				if !ok {
					want = ""
				}
				if got, is := wrap.Open(own, r, dev); got != want || is != ok {
					t.Errorf("17.2: Open of %s for %d is %x, %v", short(r), dev, got, is)
				}
			}
		}
		if got := wrap.Tag(text, r); got != slowTag(text, r) {
			t.Errorf("17.1: Tag of %s is %x", short(r), got)
		}
		for _, kind := range []int{add, revoke, int(turn % 4)} {
			heldMake(t, "by bytes", text, master, log, kind, id)
			heldMake(t, "by bytes", text, master, log, kind, id%devs)
		}
	})
}

func BenchmarkMake(b *testing.B) {
	log := chainOf(secret, master, long(maxLog-1))
	d := long(maxLog)[maxLog-1]
	for b.Loop() {
		wrap.Make(secret, master, log, d.kind, d.dev)
	}
}

func BenchmarkOpen(b *testing.B) {
	r, own := chainOf(secret, master, long(devs))[devs-1], ownOf(master, 7)
	for b.Loop() {
		wrap.Open(own, r, 7)
	}
}

func BenchmarkTake(b *testing.B) {
	log, had, own := chainOf(secret, master, long(maxLog)), keysOf(maxLog-1), ownOf(master, 0)
	for b.Loop() {
		wrap.Take(log[:maxLog-1], had, own, 0, log[maxLog-1])
	}
}
