package envelope_test

import (
	"crypto/hmac"
	"crypto/sha256"
	"encoding/binary"
	"encoding/hex"
	"fmt"
	"math"
	"slices"
	"strings"
	"testing"

	"deaddrop/api"
	"deaddrop/chacha"
	"deaddrop/envelope"
)

const (
	devs     = 8
	maxEpoch = 1 << 20
	maxSeq   = 1 << 52
	maxPlain = 1 << 20
	headSize = 32
	keySize  = 32
	pairSize = 64
	tagSize  = 16
	// greatest is the last bucket: bodies as long as it have no Pad.
	greatest = 16384

	secret = "some secret"
	master = "some master"
)

// buckets are those that 5.1 names.
func buckets() []int {
	return []int{64, 256, 1024, 4096, greatest}
}

// header is one of these numbers.
func header(epoch, from, seq int) api.Header {
	return api.Header{Epoch: epoch, From: from, Seq: seq}
}

// rising is n bytes: from, from and 1, and so on.
func rising(from byte, n int) string {
	b := make([]byte, n)
	for i := range b {
		b[i] = from + byte(i)
	}
	return string(b)
}

// flipped is s with another byte at a place: xor by.
func flipped(s string, at int, by byte) string {
	b := []byte(s)
	b[at] ^= by
	return string(b)
}

// short is a text of what, with what is too long cut.
func short(what any) string {
	text := fmt.Sprintf("%+q", fmt.Sprint(what))
	if len(text) > 300 {
		return text[:300] + ".."
	}
	return text
}

// slowHead is the bytes of h, whatever it is, by the library's numbers.
func slowHead(h api.Header) string {
	b := []byte{3, 0, 0, 0, 3}
	for _, n := range []int{h.Epoch, h.From, h.Seq} {
		b = binary.BigEndian.AppendUint64(append(b, 1), uint64(n))
	}
	return string(b)
}

// slowMay tells whether h is as 18.1 asks it.
func slowMay(h api.Header) bool {
	return h.Epoch >= 1 && h.Epoch <= maxEpoch && h.From >= 0 && h.From <= devs-1 && h.Seq >= 1 && h.Seq <= maxSeq
}

// slowMac is HMAC-SHA256 by the library.
func slowMac(key string, parts ...string) string {
	h := hmac.New(sha256.New, []byte(key))
	h.Write([]byte(strings.Join(parts, "")))
	return string(h.Sum(nil))
}

// slowKey is n bytes of 3.2 with the salt of all keys.
func slowKey(key, info string, n int) string {
	p, last, all := slowMac("deaddrop", key), "", ""
	for i := byte(1); len(all) < n; i++ {
		last = slowMac(p, last, info, string([]byte{i}))
		all += last
	}
	return all[:n]
}

// epochKey and pairOf are Epoch and Send of 14.1.
func epochKey(secret string, epoch int) string {
	return slowKey(secret, fmt.Sprint("epoch ", epoch), keySize)
}

func pairOf(key string, from int) string {
	return slowKey(key, fmt.Sprint("send ", from), pairSize)
}

// nonce is that of n.
func nonce(n int) string {
	return "\x00\x00\x00\x00" + string(binary.BigEndian.AppendUint64(nil, uint64(n)))
}

// slowBox is plain, which need not be padded, sealed as what stands behind h.
func slowBox(key string, h api.Header, plain string) string {
	pair, ad := pairOf(key, h.From), slowHead(h)
	c := string(chacha.Xor(pair[:keySize], nonce(h.Seq), 1, []byte(plain)))
	return c + slowMac(pair[keySize:], nonce(len(ad))[4:], ad, nonce(h.Seq), c)[:tagSize]
}

// slowPad is 5.1 byte by byte; false: there is none.
func slowPad(s string) (string, bool) {
	for _, n := range buckets() {
		if n > len(s) {
			return s + "\x80" + strings.Repeat("\x00", n-len(s)-1), true
		}
	}
	return "", false
}

// slowSeal is Seal, as the words of 18.1 say it.
func slowSeal(key string, h api.Header, body string) (string, api.Errno) {
	if len(key) != keySize || !slowMay(h) {
		return "", api.ErrArg
	}
	padded, ok := slowPad(body)
	if !ok {
		return "", api.ErrLarge
	}
	return slowHead(h) + slowBox(key, h, padded), api.OK
}

// slowParse is Parse, by the bytes of a header as they have to stand.
func slowParse(s string) (api.Header, bool) {
	if len(s) < headSize {
		return api.Header{}, false
	}
	n := func(at int) int { return int(binary.BigEndian.Uint64([]byte(s[at : at+8]))) }
	h := header(n(6), n(15), n(24))
	if !slowMay(h) || s[:6] != "\x03\x00\x00\x00\x03\x01" || s[14] != 1 || s[23] != 1 {
		return api.Header{}, false
	}
	return h, true
}

// right are headers that may be.
func right() []api.Header {
	return []api.Header{
		header(1, 0, 1), header(1, 7, 1), header(2, 3, 1), header(3, 1, 7), header(40, 5, 255), header(41, 6, 256), header(255, 2, 65536),
		header(256, 4, 1<<32), header(65536, 7, 1<<32+1), header(maxEpoch-1, 0, maxSeq-1), header(maxEpoch, 7, maxSeq), header(maxEpoch, 0, 1), header(1, 0, maxSeq),
	}
}

// wrong are headers that may not be.
func wrong() []api.Header {
	var l []api.Header
	for _, n := range []int{0, -1, -2, -maxEpoch, maxEpoch + 1, maxEpoch + 2, 1 << 32, 1<<32 + 1, 1 << 40, math.MaxInt, math.MinInt, math.MinInt + 1} {
		l = append(l, header(n, 3, 9))
	}
	for _, n := range []int{-1, -2, -devs, devs, devs + 1, 2 * devs, 256, 1 << 32, 1<<32 + 3, math.MaxInt, math.MinInt, math.MinInt + 3} {
		l = append(l, header(5, n, 9))
	}
	for _, n := range []int{0, -1, -2, -maxSeq, maxSeq + 1, maxSeq + 2, 1 << 53, 1 << 62, math.MaxInt, math.MinInt, math.MinInt + 9} {
		l = append(l, header(5, 3, n))
	}
	return append(l, api.Header{}, header(0, -1, 0), header(maxEpoch+1, devs, maxSeq+1), header(-1, -1, -1), header(0, 3, 0), header(5, 8, 0), header(0, 8, 9))
}

// bodies are lengths of such as have a Pad: all about the ends of buckets.
func bodies() []int {
	var l []int
	for _, n := range append(buckets(), 3) {
		for by := -3; by <= 3; by++ {
			if n+by < greatest {
				l = append(l, n+by)
			}
		}
	}
	return append(l, 100, 500, 2000, 9000)
}

// seals tells the test whether Seal tells what the slow way does, and this number.
func seals(t *testing.T, what, key string, h api.Header, body string, want api.Errno) string {
	t.Helper()
	s, e := envelope.Seal(key, h, body)
	slow, number := slowSeal(key, h, body)
	if e != number || e != want || s != slow {
		t.Errorf("18.1: %s: Seal by %d bytes of %v over %d bytes tells %s, %d, not %s, %d", what, len(key), h, len(body), short(s), e, short(slow), want)
	}
	return s
}

// bytesOf is the bytes that are written so, two digits each.
func bytesOf(t *testing.T, s string) string {
	t.Helper()
	b, err := hex.DecodeString(s)
	if err != nil {
		t.Fatal(err)
	}
	return string(b)
}

// known are envelopes that another program worked out.
func known() []struct {
	key  string
	h    api.Header
	body string
	want string
} {
	return []struct {
		key  string
		h    api.Header
		body string
		want string
	}{
		{epochKey(secret, 1), header(1, 0, 1), "", "0300000003010000000000000001010000000000000000010000000000000001" +
			"69c8bc2510418f2498d7c31b222f3152de43354ba38714c67c10e0f911d8a5938e0e1ffd043220a3fc85489eda2776ce511436b8572d797e71a6158dda37e16ddf2f7708a1858eba5233ffe5ac999467"},
		{epochKey(secret, 3), header(3, 1, 7), "some body", "0300000003010000000000000003010000000000000001010000000000000007" +
			"cd85c5ccffb08e7bf686ab194778f18fe2cb46dacc69f5ac8ef363da35b22c1e7569b783b5ee126821fc23a9f6c10f5844ab5d90675f129d10df88d0a1f9c7fbb6c10e1568d591dafbc5eb2a4862324a"},
		{rising(0, keySize), header(maxEpoch, 7, maxSeq), strings.Repeat("\x80", 63), "0300000003010000000000100000010000000000000007010010000000000000" +
			"e2de45e0091ce40ade9ab926cfc22782891bc6d57215423e7c730aee1d35bb45695bb77ea3f6617cc61644ce69090ba858600136bd1e6a3c64c9286409554614318d82bae3eaaa6ecc10af64f43eeaed"},
		{rising(200, keySize), header(256, 5, 0x102030405060), rising(0, 64), "0300000003010000000000000100010000000000000005010000102030405060" +
			"ae35a3f11fd8cd3c98688cef3a7cfe59e652fa8cd259d2306816f51e3c19e895b07bbcf32a84e17e079f08b0642eebaefe44a95c10e192af58b010765d90f85b" +
			"aee9b4c46ecb26f7cb441ca684a338fe8630b7c48e53e12fa4291e9fb934c6bd200b46af6caed8c3323771db876c40348d525d97025cf2b89a37b186d9be8ffe" +
			"3b975ff3b903312594427037e37ebcecd36fe14862da157a83ab4372e85d6a208adb9b23f52f3f7493d4a123edfb7e8b550650e08824250d2abe97f3adfae866" +
			"2039e1bb1c693c33d69cb2492777b496828236a0c3a92c7b582a36951caff86bec8ab84bb90a70cce874047fe169a7ca4b6ec73e245aced649b1115742a3a5b9" +
			"8cf113450a1ec23257cc29d44c99075e"},
	}
}

// 18.1: Seal, and Parse, by bytes that another program worked out.
func TestKnown(t *testing.T) {
	for i, c := range known() {
		want := bytesOf(t, c.want)
		if got, e := envelope.Seal(c.key, c.h, c.body); e != api.OK || got != want {
			t.Errorf("18.1: Seal %d is %x, %d, not %s", i, got, e, c.want)
		}
		if h, ok := envelope.Parse(want); !ok || h != c.h {
			t.Errorf("18.1: Parse %d is %v, %v", i, h, ok)
		}
	}
	for n, want := range map[int]string{
		255:   "4efe9661d433dd0b7782ae0e9907a5087166cabe54dcb2504e9fc05c28e18a80",
		256:   "cf265ed7567a768e2588a56d9ff808b0ae5ac10f932cd0438dca88d59a701bfd",
		1023:  "7755a067b29ae1a85ed537291666a2ad31d033e5ba11d4289cfe645549bf3e5d",
		1024:  "569e0f0b35ab692a1b32f806a302112da44ea774ba3e522fb0d643b2c26e93af",
		4095:  "1c0fb5c910c65afb452470f24a95eb0630d776c12f1d8f109e2492ad74944106",
		4096:  "49cef646d0aa206aad3dcb1a524cc587576abe6f5d45dfd5af3719a0f810748d",
		16383: "2a84a2648968a711d896835ba2a41621083c5485c1ec19354838fbc7247191a2",
	} {
		got, e := envelope.Seal(rising(0, keySize), header(2, 3, n), rising(1, n))
		if sum := sha256.Sum256([]byte(got)); e != api.OK || hex.EncodeToString(sum[:]) != want {
			t.Errorf("18.1: Seal of %d bytes has the sum %x, %d, not %s", n, sum, e, want)
		}
	}
}

// 18.1: ErrArg for keys of other lengths than KeySize.
func TestSealKeys(t *testing.T) {
	lengths := []int{200, 255, 256, 257, 1000, 65536, 1<<16 + keySize}
	for n := range 140 {
		lengths = append(lengths, n)
	}
	for _, n := range lengths {
		want := api.ErrArg
		if n == keySize {
			want = api.OK
		}
		for _, h := range right() {
			seals(t, "a key", rising(9, n), h, "some body", want)
			seals(t, "a key of noughts", strings.Repeat("\x00", n), h, "", want)
		}
	}
}

// 18.1: ErrArg for an Epoch, a From and a Seq that are none, up to the ends.
func TestSealHeaders(t *testing.T) {
	key := rising(9, keySize)
	for _, h := range right() {
		seals(t, "may be", key, h, "some body", api.OK)
	}
	for _, h := range wrong() {
		seals(t, "may not be", key, h, "some body", api.ErrArg)
		seals(t, "may not be", key, h, "", api.ErrArg)
	}
	for n := -300; n < 300; n++ {
		want := func(ok bool) api.Errno {
			if ok {
				return api.OK
			}
			return api.ErrArg
		}
		seals(t, "epochs", key, header(n, 3, 9), "x", want(n >= 1))
		seals(t, "senders", key, header(5, n, 9), "x", want(n >= 0 && n <= 7))
		seals(t, "numbers", key, header(5, 3, n), "x", want(n >= 1))
	}
	for by := range 5 {
		late := []api.Errno{api.OK, api.ErrArg}[min(by, 1)]
		seals(t, "epochs", key, header(maxEpoch+by, 3, 9), "x", late)
		seals(t, "epochs", key, header(maxEpoch-by, 3, 9), "x", api.OK)
		seals(t, "numbers", key, header(5, 3, maxSeq+by), "x", late)
		seals(t, "numbers", key, header(5, 3, maxSeq-by), "x", api.OK)
	}
}

// 18.1: ErrLarge for the first body that has no Pad, and all longer ones; none for
// the last that has one.
func TestSealLarge(t *testing.T) {
	key := rising(9, keySize)
	for _, h := range right() {
		seals(t, "the last", key, h, rising(1, greatest-1), api.OK)
		seals(t, "the first", key, h, rising(1, greatest), api.ErrLarge)
	}
	for _, n := range []int{greatest + 1, greatest + 63, 2 * greatest, 4 * greatest, 4*greatest + 1, maxPlain, maxPlain + 1, 1 << 24} {
		seals(t, "longer", key, header(1, 0, 1), strings.Repeat("x", n), api.ErrLarge)
		seals(t, "of noughts", key, header(1, 0, 1), strings.Repeat("\x00", n), api.ErrLarge)
	}
}

// 18.1: where several are wrong, ErrArg counts ahead of ErrLarge.
func TestSealOrder(t *testing.T) {
	const many = 4
	for i := range many * many * many * many * 2 {
		n := i
		pick := func(l ...int) int {
			one := l[n%len(l)]
			n /= len(l)
			return one
		}
		size, epoch, from, seq, body := pick(keySize, 0, keySize-1, keySize+1), pick(7, 0, -7, maxEpoch+1), pick(3, -1, devs, 1<<40), pick(9, 0, -9, maxSeq+1), pick(greatest-1, greatest)
		want := api.OK
		if body == greatest {
			want = api.ErrLarge
		}
		if size != keySize || epoch != 7 || from != 3 || seq != 9 {
			want = api.ErrArg
		}
		seals(t, "several", rising(1, size), header(epoch, from, seq), rising(0, body), want)
	}
}

// 18.1: what Seal tells is the header's bytes, and behind them the Seal over Pad of
// the body, for bodies of every length about a bucket's.
func TestSeal(t *testing.T) {
	key := rising(9, keySize)
	lengths := bodies()
	for n := range 300 {
		lengths = append(lengths, n)
	}
	for i, n := range lengths {
		h := right()[i%len(right())]
		for _, body := range []string{rising(byte(n), n), strings.Repeat("\x00", n), strings.Repeat("\x80", n)} {
			s := seals(t, "a body", key, h, body, api.OK)
			padded, ok := slowPad(body)
			if !ok || len(s) != headSize+len(padded)+tagSize {
				t.Errorf("18.1: Seal of %d bytes has %d", n, len(s))
				continue
			}
			if s[:headSize] != slowHead(h) || s[headSize:] != slowBox(key, h, padded) {
				t.Errorf("18.1: Seal of %d bytes is %s", n, short(s))
			}
		}
	}
}

// 18.1: another key, header or body is sealed to other bytes.
func TestSealsApart(t *testing.T) {
	seen := map[string]string{}
	note := func(what, key string, h api.Header, body string) {
		s := seals(t, what, key, h, body, api.OK)
		if len(s) < headSize {
			return
		}
		if other, ok := seen[s[headSize:]]; ok {
			t.Errorf("18.1: %s is sealed as %s", what, other)
		}
		seen[s[headSize:]] = what
	}
	key := rising(9, keySize)
	for at := range keySize {
		note(fmt.Sprint("a key turned at ", at), flipped(key, at, 1), header(5, 3, 9), "some body")
	}
	for n := range 64 {
		note(fmt.Sprint("a number ", n), key, header(5, 3, n+1), "some body")
		note(fmt.Sprint("an epoch ", n), key, header(n+100, 3, 9), "some body")
		note(fmt.Sprint("a body of ", n), key, header(6, 3, 9), strings.Repeat("\x00", n))
		note(fmt.Sprint("another body of ", n), key, header(6, 3, 9), strings.Repeat("\x00", n)+"x")
	}
	for from := range devs {
		note(fmt.Sprint("a sender ", from), key, header(7, from, 9), "some body")
	}
	// Each sender has keys of its own: not just the bytes around are others.
	one, _ := envelope.Seal(key, header(7, 0, 9), "some body")
	other, _ := envelope.Seal(key, header(7, 1, 9), "some body")
	if len(one) > headSize+8 && len(other) > headSize+8 && one[headSize:headSize+8] == other[headSize:headSize+8] {
		t.Error("18.1: two senders seal by one stream")
	}
}

// parses tells the test whether Parse tells what the slow way does; it tells
// whether that is a header.
func parses(t *testing.T, what, s string) bool {
	t.Helper()
	h, ok := envelope.Parse(s)
	want, is := slowParse(s)
	if h != want || ok != is {
		t.Errorf("18.1: %s: Parse of %s is %v, %v, not %v, %v", what, short(s), h, ok, want, is)
	}
	return ok
}

// 18.1: Parse of what Seal told, of its header alone, and with anything behind.
func TestParse(t *testing.T) {
	key := rising(9, keySize)
	for _, h := range right() {
		for _, n := range []int{0, 1, 63, 64, 5000, greatest - 1} {
			s, _ := envelope.Seal(key, h, rising(1, n))
			if !parses(t, "an envelope", s) {
				t.Errorf("18.1: Parse of what was sealed with %v is none", h)
			}
		}
		alone := slowHead(h)
		behind := []string{"", "x", "\x00", "\x01", "\x03", alone, slowHead(api.Header{}), rising(0, 300), strings.Repeat("\x00", 40), strings.Repeat("\xff", maxPlain)}
		for i, s := range behind {
			if got, ok := envelope.Parse(alone + s); !ok || got != h || !parses(t, "a header", alone+s) {
				t.Errorf("18.1: Parse of %v with %d behind it is %v, %v", h, i, got, ok)
			}
		}
	}
}

// 18.1: Parse of headers that Seal would refuse.
func TestParseWrong(t *testing.T) {
	for _, h := range wrong() {
		for _, behind := range []string{"", "x", slowHead(header(1, 0, 1)), rising(0, 80)} {
			if parses(t, "a header that may not be", slowHead(h)+behind) {
				t.Errorf("18.1: Parse of %v is one", h)
			}
		}
	}
	for n := -300; n < 300; n++ {
		for i, h := range []api.Header{header(n, 3, 9), header(5, n, 9), header(5, 3, n)} {
			is := n >= 1
			if i == 1 {
				is = n >= 0 && n < devs
			}
			if parses(t, "numbers", slowHead(h)) != is {
				t.Errorf("18.1: Parse of %v is not %v", h, is)
			}
		}
	}
	for by := range 5 {
		for _, h := range []api.Header{header(maxEpoch+by, 3, 9), header(5, 3, maxSeq+by)} {
			if parses(t, "the last", slowHead(h)) != (by == 0) {
				t.Errorf("18.1: Parse of %v is not %v", h, by == 0)
			}
		}
	}
}

// 18.1: Parse of what is cut, at each length: a header is there whole, or not.
func TestParseCut(t *testing.T) {
	for _, h := range right() {
		s, _ := envelope.Seal(rising(9, keySize), h, "some body")
		for n := range len(s) + 1 {
			if parses(t, "the beginning", s[:n]) != (n >= headSize) {
				t.Errorf("18.1: Parse of the first %d bytes is not %v", n, n >= headSize)
			}
			if n > 0 && parses(t, "the end", s[n:]) {
				t.Errorf("18.1: Parse without the first %d bytes is one", n)
			}
		}
		for n := range headSize {
			parses(t, "a byte left out", s[:n]+s[n+1:])
			parses(t, "a byte put in", s[:n]+"\x00"+s[n:])
			parses(t, "a byte twice", s[:n+1]+s[n:])
		}
	}
}

// 18.1: Parse with each byte turned, to each other: what the header's bytes say
// then, if they say one; what stands behind does not count.
func TestParseTurned(t *testing.T) {
	for _, h := range right() {
		s, _ := envelope.Seal(rising(9, keySize), h, "some body")
		if len(s) < headSize {
			t.Fatal("18.1: Seal tells nothing")
		}
		for at := range s {
			for by := 1; by < 256; by++ {
				other := flipped(s, at, byte(by))
				ok := parses(t, "turned", other)
				if got, _ := envelope.Parse(other); at >= headSize && got != h {
					t.Errorf("18.1: Parse with byte %d turned is %v", at, got)
				} else if at < headSize && ok && got == h {
					t.Errorf("18.1: Parse with byte %d turned is the same", at)
				}
			}
		}
	}
}

// putNum, putText and putList write wires anew.
func putNum(n int) string {
	return "\x01" + string(binary.BigEndian.AppendUint64(nil, uint64(n)))
}

func putText(s string) string {
	return "\x02" + string(binary.BigEndian.AppendUint32(nil, uint32(len(s)))) + s
}

func putList(l ...string) string {
	return "\x03" + string(binary.BigEndian.AppendUint32(nil, uint32(len(l)))) + strings.Join(l, "")
}

// formless are texts that no header begins.
func formless() []string {
	one, head := putNum(1), slowHead(header(1, 1, 1))
	l := []string{
		"", "\x00", "\x03", head[:5], head[:headSize-1], head[1:], "x" + head, "\x00" + head, strings.Repeat("\x00", headSize), strings.Repeat("\xff", headSize), strings.Repeat("\x03", headSize), rising(0, 200),
		// Wires of 32 bytes, and of others.
		putText(rising(0, 27)), putText(head), putText(""), one, one + one + one, one + one + one + one,
		putList(), putList(one), putList(one, one), putList(one, one, one, one), putList(one, one, one, one, one), putList(one, one) + one,
		putList(putText("1234"), one, one), putList(one, putText("1234"), one), putList(one, one, putText("1234")),
		putList(putText("1234"), putText("1234"), putText("1234")), putList(putText(""), one, putText("12345678")), putList(one, putText(rising(0, 13))),
		putList(putList(), one, putText("12345678")), putList(one, putList(), putText("12345678")), putList(putList(one), putText(""), putText("123")),
		putList(putList(one), putText("12345678")), putList(putText(rising(0, 22))), putList(putList(one, one, one)), putList(putText("")+putText("")+putText(""), putText(""), putText("12")),
		putList(putText(""), putText(""), putText(rising(0, 12))), putList(putText(""), putText(""), putText(""), putText(""), putText("12")),
		// Another kind than that of a list, another count.
		"\x00" + head[1:], "\x01" + head[1:], "\x02" + head[1:], "\x04" + head[1:], "\x83" + head[1:],
		"\x03\x00\x00\x00\x02" + head[5:], "\x03\x00\x00\x00\x04" + head[5:], "\x03\x00\x00\x00\x00" + head[5:], "\x03\x01\x00\x00\x03" + head[5:], "\x03\xff\xff\xff\xff" + head[5:],
	}
	for _, h := range wrong() {
		l = append(l, slowHead(h))
	}
	return l
}

// 18.1: Parse of what begins with no header.
func TestParseNone(t *testing.T) {
	for _, s := range formless() {
		for _, behind := range []string{"", "x", strings.Repeat("\x00", 80), rising(7, 80)} {
			// Of what is cut, what stands behind may be its rest.
			if len(s) < headSize && behind != "" {
				parses(t, "with more", s+behind)
				continue
			}
			if parses(t, "none", s+behind) {
				t.Errorf("18.1: Parse of %s is one", short(s+behind))
			}
		}
	}
}

// 18.1: Parse asks for no key, and Seal's headers are all that it tells: of all
// small numbers.
func TestParseSmall(t *testing.T) {
	key := rising(9, keySize)
	for epoch := -2; epoch < 5; epoch++ {
		for from := -2; from < devs+3; from++ {
			for seq := -2; seq < 5; seq++ {
				h := header(epoch, from, seq)
				_, e := envelope.Seal(key, h, "")
				got, ok := envelope.Parse(slowHead(h))
				if ok != (e == api.OK) || ok && got != h || !ok && got != (api.Header{}) {
					t.Errorf("18.1: Seal with %v tells %d, Parse of it is %v, %v", h, e, got, ok)
				}
			}
		}
	}
}

// 18.3: all envelopes of one bucket are as long, whoever sealed what.
func TestAsLong(t *testing.T) {
	for i, bucket := range buckets() {
		first := 0
		if i > 0 {
			first = buckets()[i-1]
		}
		for _, n := range []int{first, first + 1, first + 2, (first + bucket) / 2, bucket - 2, bucket - 1} {
			for j, h := range right() {
				for _, key := range []string{rising(byte(j), keySize), epochKey(secret, j)} {
					s, e := envelope.Seal(key, h, strings.Repeat("\x00", n))
					other, _ := envelope.Seal(key, h, rising(byte(j), n))
					if e != api.OK || len(s) != headSize+bucket+tagSize || len(other) != len(s) {
						t.Errorf("18.3: Seal with %v of %d bytes has %d, and %d", h, n, len(s), len(other))
					}
				}
			}
		}
	}
	if slices.Contains(bodies(), greatest) {
		t.Error("a body that has no Pad is among those that have one")
	}
}
