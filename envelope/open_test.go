package envelope_test

import (
	"fmt"
	"math"
	"slices"
	"strings"
	"testing"

	"deaddrop/api"
	"deaddrop/chacha"
	"deaddrop/envelope"
	"deaddrop/keys"
	"deaddrop/wrap"
)

const (
	add    = api.RAdd
	revoke = api.RRevoke
	maxLog = 40
)

// records are such as say Kind, Dev; Kind, Dev; and so on, by Seqs from 1 on; they
// are no chain.
func records(l ...int) []api.Record {
	var log []api.Record
	for i := 0; i+1 < len(l); i += 2 {
		log = append(log, api.Record{Seq: len(log) + 1, Kind: l[i], Dev: l[i+1]})
	}
	return log
}

// chain are records that are one, made by secret and master.
func chain(t testing.TB, l ...int) []api.Record {
	t.Helper()
	var log []api.Record
	for i := 0; i+1 < len(l); i += 2 {
		r, e := wrap.Make(secret, master, log, l[i], l[i+1])
		if e != api.OK {
			t.Fatalf("17.1: record %d: %d", len(log)+1, e)
		}
		log = append(log, r)
	}
	return log
}

// long are n deeds: all devices come, then one by one goes, and comes again.
func long(n int) []int {
	var l []int
	for i := range n {
		kind, dev := add, i
		if i >= devs {
			kind, dev = revoke-i%2, (i-devs)/2%(devs-1)+1
		}
		l = append(l, kind, dev)
	}
	return l
}

// held are Epoch, Key; Epoch, Key; and so on.
func held(l ...any) []api.EpochKey {
	var out []api.EpochKey
	for i := 0; i+1 < len(l); i += 2 {
		out = append(out, api.EpochKey{Epoch: l[i].(int), Key: l[i+1].(string)})
	}
	return out
}

// keysOf are those of these epochs.
func keysOf(epochs ...int) []api.EpochKey {
	var out []api.EpochKey
	for _, n := range epochs {
		out = append(out, api.EpochKey{Epoch: n, Key: epochKey(secret, n)})
	}
	return out
}

// allKeys are those of the epochs up to n.
func allKeys(n int) []api.EpochKey {
	var out []api.EpochKey
	for i := range n {
		out = append(out, keysOf(i+1)...)
	}
	return out
}

// slowIn tells whether dev is a member at epoch, as the words of 16.1 say it.
func slowIn(log []api.Record, epoch, dev int) bool {
	is := map[int]bool{}
	for _, r := range log {
		if r.Seq <= epoch && (r.Kind == add || r.Kind == revoke) {
			is[r.Dev] = r.Kind == add
		}
	}
	return dev >= 0 && dev < devs && is[dev]
}

// slowUnpad is the text whose Pad s is; false: none.
func slowUnpad(s string) (string, bool) {
	at := strings.LastIndexByte(s, 128)
	if at < 0 {
		return "", false
	}
	padded, ok := slowPad(s[:at])
	return s[:at], ok && padded == s
}

// slowUnbox is what slowBox made these bytes of; false: nothing.
func slowUnbox(key string, h api.Header, s string) (string, bool) {
	n := len(s) - tagSize
	if n < 0 || n > maxPlain {
		return "", false
	}
	// Sealed twice is open again: the stream is the same.
	plain := string(chacha.Xor(pairOf(key, h.From)[:keySize], nonce(h.Seq), 1, []byte(s[:n])))
	return plain, slowBox(key, h, plain) == s
}

// slowOpen is Open, as the words of 18.2 say it.
func slowOpen(log []api.Record, had []api.EpochKey, s string) (api.Header, string, api.Errno) {
	none := api.Header{}
	h, ok := slowParse(s)
	if !ok {
		return none, "", api.ErrForm
	}
	if h.Epoch > len(log) {
		return none, "", api.ErrEpoch
	}
	var of []string
	for _, k := range had {
		if k.Epoch == h.Epoch {
			of = append(of, k.Key)
		}
	}
	if len(of) == 0 {
		return none, "", api.ErrOld
	}
	if !slowIn(log, h.Epoch, h.From) {
		return none, "", api.ErrSender
	}
	plain, ok := slowUnbox(of[0], h, s[headSize:])
	if !ok {
		return none, "", api.ErrTag
	}
	body, ok := slowUnpad(plain)
	if !ok {
		return none, "", api.ErrForm
	}
	return h, body, api.OK
}

// heldOpen tells the test whether Open tells what the slow way does; it tells the
// number.
func heldOpen(t *testing.T, what string, log []api.Record, had []api.EpochKey, s string) api.Errno {
	t.Helper()
	h, body, e := envelope.Open(log, had, s)
	wantHeader, wantBody, want := slowOpen(log, had, s)
	if h != wantHeader || body != wantBody || e != want {
		t.Errorf("18.2: %s: Open of %s tells %v, %s, %d, not %v, %s, %d", what, short(s), h, short(body), e, wantHeader, short(wantBody), want)
	}
	return e
}

// refuses tells the test that Open tells just this number, and nothing beside it.
func refuses(t *testing.T, what string, log []api.Record, had []api.EpochKey, s string, want api.Errno) {
	t.Helper()
	heldOpen(t, what, log, had, s)
	if h, body, e := envelope.Open(log, had, s); e != want || h != (api.Header{}) || body != "" {
		t.Errorf("18.2: %s: Open of %s tells %v, %s, %d, not %d", what, short(s), h, short(body), e, want)
	}
}

// opens tells the test that Open tells just this header and this body.
func opens(t *testing.T, what string, log []api.Record, had []api.EpochKey, s string, h api.Header, body string) {
	t.Helper()
	heldOpen(t, what, log, had, s)
	if gotHeader, got, e := envelope.Open(log, had, s); e != api.OK || gotHeader != h || got != body {
		t.Errorf("18.2: %s: Open tells %v, %s, %d, not %v, %s", what, gotHeader, short(got), e, h, short(body))
	}
}

// sealed is the envelope of body by the key of its epoch.
func sealed(t testing.TB, epoch, from, seq int, body string) string {
	t.Helper()
	s, e := envelope.Seal(epochKey(secret, epoch), header(epoch, from, seq), body)
	if e != api.OK || len(s) <= headSize+tagSize {
		t.Fatalf("18.1: Seal of epoch %d, sender %d, number %d tells %d", epoch, from, seq, e)
	}
	return s
}

// 18.2: ErrForm for what Parse refuses, whatever log and keys there are.
func TestOpenForm(t *testing.T) {
	good := sealed(t, 1, 0, 1, "some body")
	var l []string
	for n := range headSize {
		l = append(l, good[:n], good[:n]+good[n+1:])
	}
	for _, s := range append(l, formless()...) {
		for _, log := range [][]api.Record{nil, records(add, 0), records(long(maxLog)...), chain(t, long(3)...)} {
			for _, had := range [][]api.EpochKey{nil, keysOf(1), allKeys(maxLog), keysOf(0, -1, math.MaxInt)} {
				if _, ok := slowParse(s); !ok {
					refuses(t, "no header", log, had, s, api.ErrForm)
				}
				// What was no header may be one with more behind it.
				heldOpen(t, "more behind it", log, had, s+good)
			}
		}
	}
	// A header that may not be is refused ahead of all else, though its box fits.
	for _, h := range wrong() {
		padded, _ := slowPad("some body")
		key := epochKey(secret, h.Epoch)
		s := slowHead(h) + slowBox(key, h, padded)
		refuses(t, "a header that may not be", records(long(8)...), held(h.Epoch, key), s, api.ErrForm)
	}
}

// 18.2: ErrEpoch for an Epoch above how many records there are, whatever their
// Seqs, and whatever all else is.
func TestOpenEpoch(t *testing.T) {
	for _, n := range []int{0, 1, 2, 3, 8, 9, 39, 40, 41, 60} {
		log := records(long(n)...)
		for _, epoch := range []int{n - 1, n, n + 1, n + 2, n + 256, maxEpoch} {
			if epoch < 1 {
				continue
			}
			what := fmt.Sprint(n, " records, epoch ", epoch)
			good := sealed(t, epoch, 0, 7, "some body")
			others := []string{good[:headSize], flipped(good, 60, 1), good + "x", sealed(t, epoch, 7, 1, ""), slowHead(header(epoch, 3, maxSeq))}
			for _, had := range [][]api.EpochKey{nil, keysOf(epoch), keysOf(epoch, epoch), keysOf(epoch - 1), held(epoch, "another")} {
				if epoch <= n {
					if e := heldOpen(t, what, log, had, good); e == api.ErrEpoch {
						t.Errorf("18.2: %s: ErrEpoch", what)
					}
					continue
				}
				refuses(t, what, log, had, good, api.ErrEpoch)
				for _, s := range others {
					refuses(t, what+" of another", log, had, s, api.ErrEpoch)
				}
			}
			if epoch <= n {
				opens(t, what, log, keysOf(epoch), good, header(epoch, 0, 7), "some body")
			}
		}
	}
	// How many there are counts, not their Seqs.
	late := []api.Record{{Seq: 7, Kind: add, Dev: 0}, {Seq: 9, Kind: add, Dev: 3}}
	refuses(t, "late records", late, keysOf(2), sealed(t, 2, 0, 1, ""), api.ErrSender)
	refuses(t, "late records", late, keysOf(3), sealed(t, 3, 0, 1, ""), api.ErrEpoch)
	refuses(t, "late records", late, keysOf(7), sealed(t, 7, 0, 1, ""), api.ErrEpoch)
	early := []api.Record{{Seq: -1, Kind: add, Dev: 0}, {Seq: 0, Kind: add, Dev: 3}, {Seq: 1, Kind: 9, Dev: 9}}
	opens(t, "early records", early, keysOf(1), sealed(t, 1, 3, 1, "x"), header(1, 3, 1), "x")
	opens(t, "early records", early, keysOf(3), sealed(t, 3, 0, 1, "x"), header(3, 0, 1), "x")
	refuses(t, "early records", early, keysOf(4), sealed(t, 4, 0, 1, "x"), api.ErrEpoch)
	refuses(t, "zeros", make([]api.Record, 3), keysOf(3), sealed(t, 3, 1, 1, "x"), api.ErrSender)
}

// 18.2: ErrOld for keys without that Epoch, whoever sealed, and whatever stands
// behind the header.
func TestOpenOld(t *testing.T) {
	log := records(add, 0, add, 3, add, 1, revoke, 3, add, 2)
	for epoch := 1; epoch <= len(log); epoch++ {
		for from := range devs {
			what := fmt.Sprint("epoch ", epoch, ", sender ", from)
			good := sealed(t, epoch, from, 7, "some body")
			right := epochKey(secret, epoch)
			for _, had := range [][]api.EpochKey{
				nil, {}, keysOf(epoch - 1), keysOf(epoch + 1), keysOf(epoch-1, epoch+1), held(0, right), held(-epoch, right), held(epoch+256, right), held(1<<32+epoch, right),
				held(epoch-1, right, epoch+1, right), held(math.MinInt, right, math.MaxInt, right), make([]api.EpochKey, 9),
			} {
				refuses(t, what, log, had, good, api.ErrOld)
				refuses(t, what+", turned", log, had, flipped(good, 70, 1), api.ErrOld)
				refuses(t, what+", the header alone", log, had, good[:headSize], api.ErrOld)
			}
			// Keys may stand in any order.
			for _, had := range [][]api.EpochKey{keysOf(9, epoch, 1), keysOf(epoch, 9, 0), held(epoch-1, "x", epoch, right), held(epoch+1, "x", epoch, right)} {
				if e := heldOpen(t, what+", with its key", log, had, good); e == api.ErrOld {
					t.Errorf("18.2: %s with its key: ErrOld", what)
				}
			}
		}
	}
}

// 18.2: ErrSender for who is no member at that Epoch: who was let out, who comes
// later, who never was; though it has the right key.
func TestOpenSender(t *testing.T) {
	log := records(add, 0, add, 3, add, 1, revoke, 3, add, 2, add, 3)
	members := [][]int{nil, {0}, {0, 3}, {0, 1, 3}, {0, 1}, {0, 1, 2}, {0, 1, 2, 3}}
	had := allKeys(len(log))
	for epoch := 1; epoch <= len(log); epoch++ {
		for from := range devs {
			what := fmt.Sprint("epoch ", epoch, ", sender ", from)
			s := sealed(t, epoch, from, 9, "some body")
			if slices.Contains(members[epoch], from) {
				opens(t, what, log, had, s, header(epoch, from, 9), "some body")
				opens(t, what, log[:epoch], had, s, header(epoch, from, 9), "some body")
				refuses(t, what, log[:epoch-1], had, s, api.ErrEpoch)
				continue
			}
			for _, other := range []string{s, s[:headSize], s + "x", flipped(s, 40, 1), flipped(s, len(s)-1, 128), s[:len(s)-1]} {
				refuses(t, what, log, had, other, api.ErrSender)
				refuses(t, what, log[:epoch], held(epoch, "another key"), other, api.ErrSender)
			}
		}
	}
	refuses(t, "nobody", records(revoke, 0), keysOf(1), sealed(t, 1, 0, 1, ""), api.ErrSender)
	refuses(t, "records that say nothing", records(0, 0, 3, 0), allKeys(2), sealed(t, 2, 0, 1, ""), api.ErrSender)
}

// 18.2: ErrTag by another key than the first of that Epoch, though a second one
// would open it.
func TestOpenKeys(t *testing.T) {
	log := records(add, 0, add, 3, add, 1)
	good, right := sealed(t, 2, 3, 9, "some body"), epochKey(secret, 2)
	h := header(2, 3, 9)
	others := []string{"", "k", right[1:], right + "\x00", right + "k", epochKey(secret, 1), epochKey(secret, 3), epochKey("another", 2), secret, pairOf(right, 3), strings.Repeat("\x00", keySize), rising(0, 64), rising(0, 65)}
	for at := range keySize {
		others = append(others, flipped(right, at, 1), flipped(right, at, 128))
	}
	for _, key := range others {
		refuses(t, "another key", log, held(2, key), good, api.ErrTag)
		refuses(t, "the first of two", log, held(2, key, 2, right), good, api.ErrTag)
		refuses(t, "the first of many", log, held(1, right, 2, key, 2, right, 2, key, 3, right), good, api.ErrTag)
		opens(t, "the first of two", log, held(2, right, 2, key), good, h, "some body")
		opens(t, "among others", log, held(3, key, 1, key, 2, right), good, h, "some body")
	}
	opens(t, "twice", log, held(2, right, 2, right), good, h, "some body")
}

// 18.2: ErrTag for what is behind another header than it was sealed with.
func TestOpenOtherHeaders(t *testing.T) {
	log := records(long(8)...)
	one := epochKey(secret, 1)
	// One key for all epochs: the header is what is another.
	var had []api.EpochKey
	for epoch := range 8 {
		had = append(had, api.EpochKey{Epoch: epoch + 1, Key: one})
	}
	var headers []api.Header
	for _, epoch := range []int{4, 5, 8} {
		for _, from := range []int{0, 1, 3} {
			for _, seq := range []int{1, 2, 256, maxSeq} {
				headers = append(headers, header(epoch, from, seq))
			}
		}
	}
	for _, h := range headers {
		s, _ := envelope.Seal(one, h, "some body")
		for _, other := range headers {
			swapped := slowHead(other) + s[headSize:]
			if other == h {
				opens(t, "its header", log, had, swapped, h, "some body")
			} else {
				refuses(t, fmt.Sprint("behind ", other, " what was behind ", h), log, had, swapped, api.ErrTag)
			}
		}
	}
}

// 18.2: a byte turned, cut, or longer.
func TestOpenTurned(t *testing.T) {
	log, had := records(long(8)...), allKeys(8)
	for _, n := range []int{0, 9, 63, 64} {
		body := rising(1, n)
		good := sealed(t, 5, 3, 9, body)
		what := fmt.Sprint("a body of ", n)
		opens(t, what, log, had, good, header(5, 3, 9), body)
		for at := range good {
			for bit := range 8 {
				s := flipped(good, at, 1<<bit)
				e := heldOpen(t, what, log, had, s)
				if e == api.OK || at >= headSize && e != api.ErrTag {
					t.Errorf("18.2: %s with bit %d of byte %d turned: %d", what, bit, at, e)
				}
			}
			cut := api.ErrTag
			if at < headSize {
				cut = api.ErrForm
			}
			refuses(t, what+", cut", log, had, good[:at], cut)
			if at >= headSize {
				refuses(t, what+", a byte left out", log, had, good[:at]+good[at+1:], api.ErrTag)
				refuses(t, what+", a byte put in", log, had, good[:at]+"\x00"+good[at:], api.ErrTag)
				refuses(t, what+", without what stands ahead", log, had, good[:headSize]+good[at+1:], api.ErrTag)
			} else {
				refuses(t, what+", a byte left out", log, had, good[:at]+good[at+1:], slowForm(good[:at]+good[at+1:]))
			}
		}
		for _, more := range []string{"\x00", "x", "\x80", good, good[headSize:], rising(0, 16), strings.Repeat("\x00", 64), strings.Repeat("x", 16384)} {
			refuses(t, what+", longer", log, had, good+more, api.ErrTag)
		}
		refuses(t, what+", twice behind", log, had, good[:headSize]+good, api.ErrTag)
	}
}

// slowForm is ErrForm, or, if s begins with a header all the same, ErrTag.
func slowForm(s string) api.Errno {
	if _, ok := slowParse(s); ok {
		return api.ErrTag
	}
	return api.ErrForm
}

// 18.2: ErrForm for what opens but has no Unpad.
func TestOpenNoPad(t *testing.T) {
	log, had, h := records(long(8)...), allKeys(8), header(5, 3, 9)
	key := epochKey(secret, 5)
	l := []string{
		"", "\x80", "\x00", "no pad", strings.Repeat("\x00", 64), strings.Repeat("y", 64), strings.Repeat("y", 63), strings.Repeat("\x80", 65), strings.Repeat("y", 63) + "\x81",
		strings.Repeat("y", 64) + "\x80" + strings.Repeat("\x00", 63), strings.Repeat("y", 60) + "\x80" + strings.Repeat("\x00", 2), strings.Repeat("y", 60) + "\x80" + strings.Repeat("\x00", 4),
		"\x80" + strings.Repeat("\x00", 255), strings.Repeat("y", 9) + "\x80" + strings.Repeat("\x00", 1014), strings.Repeat("y", greatest) + "\x80" + strings.Repeat("\x00", 3*greatest-1),
		strings.Repeat("y", greatest), strings.Repeat("\x00", greatest), strings.Repeat("\x00", maxPlain), strings.Repeat("y", maxPlain-1) + "\x80",
	}
	for _, body := range []string{"", "some body", rising(0, 63), rising(0, 64), rising(0, 1023)} {
		padded, _ := slowPad(body)
		opens(t, "padded", log, had, slowHead(h)+slowBox(key, h, padded), h, body)
		l = append(l, padded+"\x00", padded[1:], padded[:len(padded)-1], padded+padded, padded[:len(padded)-1]+"\x01", body)
	}
	for _, plain := range l {
		s := slowHead(h) + slowBox(key, h, plain)
		refuses(t, fmt.Sprint("no pad, ", len(plain)), log, had, s, api.ErrForm)
		refuses(t, "no pad, by another key", log, held(5, "another"), s, api.ErrTag)
		refuses(t, "no pad, turned", log, had, flipped(s, len(s)-1, 1), api.ErrTag)
		refuses(t, "no pad, from who is none", records(long(3)...), keysOf(3), slowHead(header(3, 7, 9))+slowBox(epochKey(secret, 3), header(3, 7, 9), plain), api.ErrSender)
	}
	// What is longer than is ever sealed has no tag that counts.
	refuses(t, "far too long", log, had, slowHead(h)+slowBox(key, h, strings.Repeat("\x00", maxPlain+1)), api.ErrTag)
}

// 18.2: where several are wrong, the first counts: all of them with all others.
func TestOpenOrder(t *testing.T) {
	log := records(add, 0, add, 3, add, 1, revoke, 3, add, 2)
	count := map[api.Errno]int{}
	for i := range 1 << 6 {
		is := func(n int) bool { return i>>n&1 == 1 }
		h, had, plain, want := header(5, 1, 9), allKeys(9), "not padded", api.ErrForm
		if !is(5) {
			plain, _ = slowPad("some body")
			want = api.OK
		}
		if is(3) {
			h.From, want = 3, api.ErrSender
		}
		if is(1) {
			h.Epoch = 6
		}
		key := epochKey(secret, h.Epoch)
		s := slowHead(h) + slowBox(key, h, plain)
		if is(4) {
			s = flipped(s, len(s)-9, 4)
			if !is(3) {
				want = api.ErrTag
			}
		}
		if is(2) {
			had, want = keysOf(4, 7), api.ErrOld
		}
		if is(1) {
			want = api.ErrEpoch
		}
		if is(0) {
			s, want = flipped(s, 14, 2), api.ErrForm
		}
		what := fmt.Sprintf("wrong in %06b", i)
		if want == api.OK {
			opens(t, what, log, had, s, h, "some body")
		} else {
			refuses(t, what, log, had, s, want)
		}
		count[want]++
	}
	for e, n := range map[api.Errno]int{api.OK: 1, api.ErrForm: 33, api.ErrTag: 2, api.ErrSender: 4, api.ErrOld: 8, api.ErrEpoch: 16} {
		if count[e] != n {
			t.Errorf("%d is told %d times, not %d", e, count[e], n)
		}
	}
}

// 18.2: else the header and the body: bodies of every length about a bucket's, of
// all bytes, such as a Pad has too.
func TestOpenBodies(t *testing.T) {
	log, had := records(long(8)...), allKeys(8)
	for i, n := range bodies() {
		h := header(i%8+1, 0, n+1)
		l := []string{rising(byte(i), n), strings.Repeat("\x00", n), strings.Repeat("\x80", n), strings.Repeat("\xff", n)}
		if n > 2 {
			l = append(l, strings.Repeat("y", n-2)+"\x80\x00", "\x80"+strings.Repeat("\x00", n-1), strings.Repeat("\x00", n-1)+"\x80")
		}
		for _, body := range l {
			opens(t, fmt.Sprint("a body of ", n), log, had, sealed(t, h.Epoch, h.From, h.Seq, body), h, body)
		}
	}
	// An envelope may itself be a body.
	one := sealed(t, 1, 0, 1, "some body")
	opens(t, "in another", log, had, sealed(t, 2, 1, 2, one), header(2, 1, 2), one)
}

// 18.2: bytes that another program worked out.
func TestOpenKnown(t *testing.T) {
	log := records(long(300)...)
	for i, c := range known() {
		s := bytesOf(t, c.want)
		what := fmt.Sprint("known, ", i)
		if c.h.Epoch > len(log) {
			refuses(t, what, log, held(c.h.Epoch, c.key), s, api.ErrEpoch)
			continue
		}
		if !slowIn(log, c.h.Epoch, c.h.From) {
			refuses(t, what, log, held(c.h.Epoch, c.key), s, api.ErrSender)
			log := records(slices.Repeat([]int{add, c.h.From}, 300)...)
			opens(t, what, log, held(c.h.Epoch, c.key), s, c.h, c.body)
			continue
		}
		opens(t, what, log, held(c.h.Epoch, c.key), s, c.h, c.body)
	}
	// The last epoch that there is.
	most := make([]api.Record, maxEpoch)
	most[0] = api.Record{Kind: add, Dev: 7}
	last := known()[2]
	opens(t, "the last epoch", most, held(last.h.Epoch, last.key), bytesOf(t, last.want), last.h, last.body)
	refuses(t, "the last epoch", most[1:], held(last.h.Epoch, last.key), bytesOf(t, last.want), api.ErrEpoch)
}

// 18.2: a key of another length opens what was sealed so by it: Open asks of a key
// only whether it opens.
func TestOpenKeyLengths(t *testing.T) {
	log := records(add, 0)
	h := header(1, 0, 1)
	padded, _ := slowPad("some body")
	for _, n := range []int{0, 1, 31, 32, 33, 63, 64, 65, 1000} {
		key := rising(3, n)
		opens(t, fmt.Sprint("a key of ", n), log, held(1, key), slowHead(h)+slowBox(key, h, padded), h, "some body")
	}
}

// chains are such as devices come and go in.
func chains(t testing.TB) map[string][]api.Record {
	return map[string][]api.Record{
		"no records":     nil,
		"device 0":       chain(t, add, 0),
		"in, out, in":    chain(t, add, 0, add, 3, add, 1, revoke, 3, add, 2, add, 3, revoke, 1),
		"one and the 0":  chain(t, add, 0, add, 7, revoke, 7, add, 7, revoke, 7),
		"all":            chain(t, long(devs)...),
		"as many as may": chain(t, long(maxLog)...),
	}
}

// 18.2: every member at every Epoch of chains in which devices come and go, and all
// others.
func TestOpenChains(t *testing.T) {
	for name, log := range chains(t) {
		had := allKeys(len(log) + 2)
		for epoch := 1; epoch <= len(log)+2; epoch++ {
			for from := range devs {
				what, seq := fmt.Sprint(name, ", epoch ", epoch, ", sender ", from), epoch*devs+from
				body := rising(byte(seq), seq%70)
				s := sealed(t, epoch, from, seq, body)
				switch {
				case epoch > len(log):
					refuses(t, what, log, had, s, api.ErrEpoch)
				case slowIn(log, epoch, from):
					opens(t, what, log, had, s, header(epoch, from, seq), body)
				default:
					refuses(t, what, log, had, s, api.ErrSender)
				}
			}
		}
	}
}

// 18.3: what was sealed is opened by who has the key, as long as the sender is a
// member: each device takes the records, one by one, and opens just what was sealed
// in epochs in which it is a member.
func TestWhoHasTheKey(t *testing.T) {
	for name, whole := range chains(t) {
		if len(whole) > 10 {
			whole = whole[:16]
		}
		for id := range devs {
			own := keys.Own(master, id)
			var log []api.Record
			var had []api.EpochKey
			for i, r := range whole {
				var e api.Errno
				if log, had, e = wrap.Take(log, had, own, id, r); e != api.OK {
					t.Fatalf("17.3: %s: %d takes record %d: %d", name, id, i, e)
				}
				for epoch := 1; epoch <= min(i+3, len(whole)); epoch++ {
					for from := range devs {
						what := fmt.Sprint(name, ", ", id, " behind ", i+1, ", epoch ", epoch, ", sender ", from)
						s := sealed(t, epoch, from, 9, "some body")
						switch {
						case epoch > i+1:
							refuses(t, what, log, had, s, api.ErrEpoch)
						case !slowIn(whole, epoch, id):
							refuses(t, what, log, had, s, api.ErrOld)
						case !slowIn(whole, epoch, from):
							refuses(t, what, log, had, s, api.ErrSender)
						default:
							opens(t, what, log, had, s, header(epoch, from, 9), "some body")
						}
					}
				}
			}
		}
		if t.Failed() {
			return
		}
	}
}

// 18.3: who was let out has keys of epochs ahead, and opens by them; what it seals
// by them is opened as of then, but by no key of a later epoch.
func TestLetOut(t *testing.T) {
	log := chain(t, add, 0, add, 3, revoke, 3, add, 3)
	had := keysOf(2, 4)
	opens(t, "as of then", log, had, sealed(t, 2, 3, 1, "x"), header(2, 3, 1), "x")
	opens(t, "as of then", log, had, sealed(t, 2, 0, 1, "x"), header(2, 0, 1), "x")
	refuses(t, "while it was out", log, had, sealed(t, 3, 0, 1, "x"), api.ErrOld)
	refuses(t, "while it was out", log, allKeys(4), sealed(t, 3, 3, 1, "x"), api.ErrSender)
	opens(t, "in again", log, had, sealed(t, 4, 3, 1, "x"), header(4, 3, 1), "x")
	// By the key of epoch 2, with the header of epoch 3 or 4.
	for epoch, want := range map[int]api.Errno{3: api.ErrSender, 4: api.ErrTag} {
		s, _ := envelope.Seal(epochKey(secret, 2), header(epoch, 3, 1), "x")
		refuses(t, "by an old key", log, allKeys(4), s, want)
	}
}
