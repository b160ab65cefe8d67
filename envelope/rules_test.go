package envelope_test

import (
	"fmt"
	"math"
	"math/rand"
	"slices"
	"strings"
	"testing"
	"unsafe"

	"deaddrop/api"
	"deaddrop/envelope"
)

// room is how much is behind the end of what guarded tells.
const room = 3

// guarded is a copy of l with room behind its end, which is filled.
func guarded[T any](l []T, fill T) []T {
	return append(slices.Clone(l), slices.Repeat([]T{fill}, room)...)[:len(l)]
}

// guardLog is log in other memory, all its lists guarded.
func guardLog(log []api.Record) []api.Record {
	out := guarded(log, api.Record{Seq: 9, Prev: "behind", Kind: 9, Dev: 9, Tag: "behind"})
	for i, r := range out {
		out[i].Wraps = guarded(r.Wraps, api.Wrap{Dev: 4, Box: "behind"})
	}
	return out
}

// guardKeys are keys in other memory, guarded.
func guardKeys(l []api.EpochKey) []api.EpochKey {
	out := guarded(l, api.EpochKey{Epoch: 9, Key: "behind"})
	for i, k := range out {
		out[i].Key = strings.Clone(k.Key)
	}
	return out
}

// shown tells all of a guarded log and guarded keys, with the room behind them.
func shown(log []api.Record, had []api.EpochKey) string {
	text := fmt.Sprintf("%d, %d: %#v, %#v\n", len(log), len(had), log[:len(log)+room], had[:len(had)+room])
	for _, r := range log {
		text += fmt.Sprintf("%d: %#v\n", len(r.Wraps), r.Wraps[:len(r.Wraps)+room])
	}
	return text
}

// overlap tells whether a and b share memory.
func overlap(a, b string) bool {
	if a == "" || b == "" {
		return false
	}
	x, y := uintptr(unsafe.Pointer(unsafe.StringData(a))), uintptr(unsafe.Pointer(unsafe.StringData(b)))
	return x < y+uintptr(len(b)) && y < x+uintptr(len(a))
}

// apart tells the test that text, unless it is of a byte or none (of which there is
// but one memory), shares none with the others.
func apart(t *testing.T, what, text string, others ...string) {
	t.Helper()
	for _, other := range others {
		if len(text) > 1 && overlap(text, other) {
			t.Errorf("R3: %s: %s and %s share memory", what, short(text), short(other))
		}
	}
}

// opening is what Open is handed.
type opening struct {
	what string
	log  []api.Record
	had  []api.EpochKey
	s    string
	want api.Errno
}

// openings are such as each number is told of.
func openings(t testing.TB) []opening {
	log := chain(t, add, 0, add, 3, add, 1, revoke, 3, add, 2)
	good, h := sealed(t, 3, 1, 7, "some body"), header(3, 1, 7)
	had := allKeys(5)
	l := []opening{
		{"opened", log, had, good, api.OK},
		{"opened, of no bytes", log, had, sealed(t, 1, 0, 1, ""), api.OK},
		{"opened, of many bytes", log, had, sealed(t, 5, 2, maxSeq, rising(1, greatest-1)), api.OK},
		{"opened by one key", log[:3], keysOf(3), good, api.OK},
		{"no records", nil, had, good, api.ErrEpoch},
		{"no keys", log, nil, good, api.ErrOld},
		{"nothing at all", nil, nil, "", api.ErrForm},
		{"zeros", make([]api.Record, 4), make([]api.EpochKey, 4), good, api.ErrOld},
		{"an epoch to come", log, had, sealed(t, 6, 0, 1, "x"), api.ErrEpoch},
		{"the key of none", log, keysOf(1, 2, 4, 5), good, api.ErrOld},
		{"from who was let out", log, had, sealed(t, 4, 3, 1, "x"), api.ErrSender},
		{"from who comes later", log, had, sealed(t, 1, 2, 1, "x"), api.ErrSender},
		{"turned", log, had, flipped(good, 40, 1), api.ErrTag},
		{"by another key", log, held(3, "another", 3, epochKey(secret, 3)), good, api.ErrTag},
		{"the header alone", log, had, good[:headSize], api.ErrTag},
		{"not padded", log, had, slowHead(h) + slowBox(epochKey(secret, 3), h, "not padded"), api.ErrForm},
	}
	for i, s := range formless() {
		l = append(l, opening{fmt.Sprint("no header, ", i), log, had, s, api.ErrForm})
	}
	return l
}

// R3: what Open is handed stays as it was, behind its end too; what it tells shares
// no memory with it.
func TestOpenMemory(t *testing.T) {
	for _, c := range openings(t) {
		log, had, s := guardLog(c.log), guardKeys(c.had), strings.Clone(c.s)
		was := shown(log, had)
		h, body, e := envelope.Open(log, had, s)
		_, second, _ := envelope.Open(log, had, s)
		if e != c.want || shown(log, had) != was || s != c.s {
			t.Errorf("R3: %s: Open turned what it was handed, or tells %d, not %d", c.what, e, c.want)
		}
		apart(t, c.what, body, s, second)
		for _, k := range had {
			apart(t, c.what, body, k.Key)
		}
		// Nothing of what was handed in is kept: it may be turned behind the call.
		for i := range log {
			log[i] = api.Record{Seq: -9, Kind: 9}
		}
		for i := range had {
			had[i] = api.EpochKey{Epoch: 3, Key: "spoilt"}
		}
		wantHeader, want, _ := slowOpen(c.log, c.had, c.s)
		if h != wantHeader || body != want || second != want {
			t.Errorf("R3: %s: what Open told is not what it was", c.what)
		}
		heldOpen(t, c.what+", spoilt", log, had, s)
		heldOpen(t, c.what+", again", c.log, c.had, c.s)
	}
}

// R3: so it is with Seal and Parse.
func TestSealMemory(t *testing.T) {
	for _, n := range bodies() {
		key, body := rising(9, keySize), rising(byte(n), n)
		first, e := envelope.Seal(key, header(5, 3, 9), body)
		second, _ := envelope.Seal(key, header(5, 3, 9), body)
		if e != api.OK || first != second {
			t.Errorf("R5: Seal of %d bytes tells two", n)
		}
		apart(t, fmt.Sprint("a body of ", n), first, key, body, second)
		if key != rising(9, keySize) || body != rising(byte(n), n) {
			t.Errorf("R3: Seal of %d bytes turned what it was handed", n)
		}
		if h, ok := envelope.Parse(first); !ok || h != header(5, 3, 9) || first != second {
			t.Errorf("R3: Parse of an envelope of %d bytes is %v, %v", n, h, ok)
		}
	}
}

// R4: beside an error, and beside a false, all else is zero.
func TestBesideErrors(t *testing.T) {
	for _, c := range openings(t) {
		h, body, e := envelope.Open(c.log, c.had, c.s)
		if e != c.want || e != api.OK && (h != api.Header{} || body != "") {
			t.Errorf("R4: %s: beside %d Open tells %v, %s", c.what, e, h, short(body))
		}
		if h, ok := envelope.Parse(c.s); !ok && h != (api.Header{}) {
			t.Errorf("R4: %s: beside a false Parse tells %v", c.what, h)
		}
	}
	for i, h := range append(right(), wrong()...) {
		for _, size := range []int{0, keySize, keySize + 1} {
			for _, n := range []int{0, greatest - 1, greatest} {
				s, e := envelope.Seal(rising(byte(i), size), h, rising(0, n))
				if (s == "") != (e != api.OK) {
					t.Errorf("R4: beside %d Seal with %v tells %s", e, h, short(s))
				}
			}
		}
	}
}

// R5: two calls of one and the same tell the same, whatever was called between.
func TestAgain(t *testing.T) {
	l := openings(t)
	say := func() string {
		var text strings.Builder
		for _, c := range l {
			h, body, e := envelope.Open(c.log, c.had, c.s)
			parsed, ok := envelope.Parse(c.s)
			s, number := envelope.Seal(rising(1, keySize), parsed, c.what)
			fmt.Fprintln(&text, h, body, e, parsed, ok, s, number)
		}
		return text.String()
	}
	first := say()
	for i := range 5 {
		envelope.Open(records(add, i), keysOf(1), l[i].s)
		envelope.Seal(rising(byte(i), keySize), header(i, i, i), fmt.Sprint(i))
		envelope.Parse(l[i].s)
		if say() != first {
			t.Fatal("R5: the same calls tell another")
		}
	}
}

// R1: what is far too long comes to an end soon.
func TestLong(t *testing.T) {
	text := strings.Repeat("x", 1<<26)
	good, h := sealed(t, 2, 3, 9, "some body"), header(2, 3, 9)
	log := records(add, 0, add, 3)
	refuses(t, "a long text", log, allKeys(2), text, api.ErrForm)
	refuses(t, "much behind", log, allKeys(2), good+text, api.ErrTag)
	refuses(t, "much behind, no key", log, nil, good+text, api.ErrOld)
	refuses(t, "much behind, no records", nil, nil, good+text, api.ErrEpoch)
	if got, ok := envelope.Parse(good + text); !ok || got != h {
		t.Errorf("18.1: Parse with much behind is %v, %v", got, ok)
	}
	if s, e := envelope.Seal(text, h, text); s != "" || e != api.ErrArg {
		t.Errorf("18.1: Seal by a long key tells %d bytes, %d", len(s), e)
	}
	if s, e := envelope.Seal(text[:keySize], h, text); s != "" || e != api.ErrLarge {
		t.Errorf("18.1: Seal of a long body tells %d bytes, %d", len(s), e)
	}
	refuses(t, "a long key", log, held(2, text), good, api.ErrTag)
	many := make([]api.EpochKey, 1<<20)
	refuses(t, "very many keys", log, many, good, api.ErrOld)
	opens(t, "very many keys", log, append(many, keysOf(2)...), good, h, "some body")
	opens(t, "very many records", append(log, make([]api.Record, 1<<20)...), keysOf(2), good, h, "some body")
	opens(t, "many records of one", slices.Repeat(log, 1<<18), keysOf(2), good, h, "some body")
}

// anyNumber is one of these, or one near 0.
func anyNumber(r *rand.Rand) int {
	l := []int{maxEpoch, maxEpoch + 1, maxSeq, maxSeq + 1, 1 << 32, 1<<32 + 1, math.MaxInt, math.MinInt, -1, 256}
	if r.Intn(4) == 0 {
		return l[r.Intn(len(l))]
	}
	return r.Intn(10)
}

// R1: no call panics, whatever it is given: parts at random.
func TestParts(t *testing.T) {
	r := rand.New(rand.NewSource(18))
	count := map[api.Errno]int{}
	for range 20000 {
		var log []api.Record
		for range r.Intn(9) {
			one := api.Record{Seq: r.Intn(4), Kind: add, Dev: r.Intn(5), Tag: "x"}
			if r.Intn(4) == 0 {
				one.Seq, one.Kind = anyNumber(r), r.Intn(4)
			}
			log = append(log, one)
		}
		var had []api.EpochKey
		for range r.Intn(8) {
			epoch := r.Intn(6)
			key := epochKey(secret, epoch)
			if r.Intn(8) == 0 {
				epoch, key = anyNumber(r), rising(1, r.Intn(40))
			}
			had = append(had, api.EpochKey{Epoch: epoch, Key: key})
		}
		h := header(r.Intn(6), r.Intn(5), r.Intn(5))
		if r.Intn(8) == 0 {
			h = header(anyNumber(r), anyNumber(r), anyNumber(r))
		}
		key := epochKey(secret, h.Epoch)
		plain := rising(byte(r.Intn(256)), r.Intn(200))
		s, e := envelope.Seal(key, h, plain)
		if slow, number := slowSeal(key, h, plain); s != slow || e != number {
			t.Fatalf("18.1: Seal with %v tells %s, %d", h, short(s), e)
		}
		if r.Intn(6) == 0 {
			s = slowHead(h) + slowBox(key, h, plain)
		}
		switch n := len(s); {
		case n > 0 && r.Intn(6) == 0:
			s = flipped(s, r.Intn(n), 1<<r.Intn(8))
		case r.Intn(12) == 0:
			s = s[:r.Intn(n+1)]
		}
		parses(t, "at random", s)
		count[heldOpen(t, "at random", log, had, s)]++
		if t.Failed() {
			return
		}
	}
	for _, e := range []api.Errno{api.OK, api.ErrForm, api.ErrEpoch, api.ErrOld, api.ErrSender, api.ErrTag} {
		if count[e] < 100 {
			t.Errorf("%d was told %d times", e, count[e])
		}
	}
}

// 18.1 to 18.3, held against a slow way.
func FuzzEnvelope(f *testing.F) {
	for _, c := range openings(f) {
		f.Add(c.s, 3, 1, 7, []byte{0, 3, 1, 11, 2}, []byte{1, 2, 3, 4, 5})
	}
	f.Add("some body", 2, 3, 9, []byte{0, 3}, []byte{2, 2, 200})
	f.Add("", maxEpoch, 7, maxSeq, []byte{}, []byte{})
	f.Fuzz(func(t *testing.T, text string, epoch, from, seq int, deeds, epochs []byte) {
		var log []api.Record
		for i, b := range deeds {
			log = append(log, api.Record{Seq: i + 1, Kind: int(b)/devs%3 + 1, Dev: int(b) % devs})
		}
		var had []api.EpochKey
		for _, b := range epochs {
			key := epochKey(secret, int(b)%64)
			if b >= 200 {
				key = text
			}
			had = append(had, api.EpochKey{Epoch: int(b) % 64, Key: key})
		}
		parses(t, "by bytes", text)
		heldOpen(t, "by bytes", log, had, text)
		for _, h := range []api.Header{header(epoch, from, seq), header(epoch&7, from&7, seq&255)} {
			for _, key := range []string{epochKey(secret, h.Epoch), text} {
				s, e := envelope.Seal(key, h, text)
				if slow, number := slowSeal(key, h, text); s != slow || e != number {
					t.Errorf("18.1: Seal by %s with %v tells %s, %d, not %d", short(key), h, short(s), e, number)
				}
				if e != api.OK {
					continue
				}
				parses(t, "sealed", s)
				heldOpen(t, "sealed", log, had, s)
				// 18.3: who has the key opens it, if the sender is a member.
				if h.Epoch < 1000 {
					one := slices.Repeat(records(add, h.From), h.Epoch)
					opens(t, "sealed", one, held(h.Epoch, key), s, h, text)
				}
			}
			plain := slowHead(h) + slowBox(epochKey(secret, h.Epoch), h, text)
			parses(t, "not padded", plain)
			heldOpen(t, "not padded", log, had, plain)
		}
	})
}

func BenchmarkSeal(b *testing.B) {
	key, body := rising(9, keySize), rising(1, 1000)
	for b.Loop() {
		envelope.Seal(key, header(5, 3, 9), body)
	}
}

func BenchmarkParse(b *testing.B) {
	s := sealed(b, 5, 3, 9, rising(1, 1000))
	for b.Loop() {
		envelope.Parse(s)
	}
}

func BenchmarkOpen(b *testing.B) {
	log, had, s := records(long(maxLog)...), allKeys(maxLog), sealed(b, maxLog, 3, 9, rising(1, 1000))
	for b.Loop() {
		envelope.Open(log, had, s)
	}
}
