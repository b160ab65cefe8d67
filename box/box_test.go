package box_test

import (
	known "crypto/hmac"
	"crypto/sha256"
	"encoding/binary"
	"encoding/hex"
	"math/rand"
	"strconv"
	"strings"
	"testing"
	"unsafe"

	"deaddrop/box"
	"deaddrop/chacha"
)

const (
	halfSize  = 32
	pairSize  = 64
	nonceSize = 12
	tagSize   = 16
	blockSize = 64
	most      = 1 << 20
)

// rising is n bytes: from, from and 1, and so on.
func rising(from byte, n int) string {
	b := make([]byte, n)
	for i := range b {
		b[i] = from + byte(i)
	}
	return string(b)
}

// some is n bytes of a source that always begins alike.
func some(r *rand.Rand, n int) string {
	b := make([]byte, n)
	r.Read(b)
	return string(b)
}

// flipped is s with another byte at a place: xor by.
func flipped(s string, at int, by byte) string {
	b := []byte(s)
	b[at] ^= by
	return string(b)
}

// slowTag is the tag of 6.1 by Go's library, by all of the key behind its first half.
func slowTag(key, nonce, ad, c string) string {
	h := known.New(sha256.New, []byte(key[min(halfSize, len(key)):]))
	h.Write(binary.BigEndian.AppendUint64(nil, uint64(len(ad))))
	h.Write([]byte(ad + nonce + c))
	return string(h.Sum(nil)[:tagSize])
}

// slowSeal is 6.1 byte by byte, but that it seals what is too long as well.
func slowSeal(key, nonce, ad, plain string) string {
	b := []byte(plain)
	stream := ""
	for i := range b {
		if i%blockSize == 0 {
			stream = chacha.Block(key[:halfSize], nonce, 1+i/blockSize)
		}
		b[i] ^= stream[i%blockSize]
	}
	return string(b) + slowTag(key, nonce, ad, string(b))
}

// none tells the test that nothing may be opened so, and nothing stand beside the false.
func none(t *testing.T, what, key, nonce, ad, sealed string) {
	t.Helper()
	if got, ok := box.Open(key, nonce, ad, sealed); ok || got != "" {
		t.Errorf("6.2: %s: %v, %d bytes", what, ok, len(got))
	}
}

// opens tells the test that sealed opens to plain.
func opens(t *testing.T, key, nonce, ad, sealed, plain string) {
	t.Helper()
	if got, ok := box.Open(key, nonce, ad, sealed); !ok || got != plain {
		t.Errorf("6.2: Open of %d bytes, %d around: %v, %d bytes", len(sealed), len(ad), ok, len(got))
	}
}

var (
	aKey   = rising(0, pairSize)
	aNonce = rising(100, nonceSize)
)

// lengths are of no plain, of one, and of those around the ends of blocks.
func lengths() []int {
	l := []int{0, 1, 2, 15, 16, 17, 31, 32, 33, 1000}
	for blocks := 1; blocks <= 4; blocks++ {
		end := blocks * blockSize
		l = append(l, end-1, end, end+1)
	}
	return append(l, 4095, 4096, 4097)
}

// arounds are bytes around: none, a few, noughts, and many.
func arounds() []string {
	return []string{"", "a", "ad", "\x00", "\x00\x00", rising(1, 255), rising(1, 256), rising(1, 257), strings.Repeat("\xff", 70000)}
}

// 6.1, on bytes that another program worked out (openssl), and 6.2 of them.
func TestKnown(t *testing.T) {
	noughts := func(n int) string { return strings.Repeat("\x00", n) }
	other := "\xff\xfe\x80\x7f\x00\x01\x02\x03\xc3\x28\x0a\x0d"
	for _, c := range []struct{ key, nonce, ad, plain, want string }{
		{noughts(64), noughts(12), "", "", "600933d0f4553b3e019a240fcef903b1"},
		{noughts(64), noughts(12), "", "\x00", "9ff482e867cd588ddae83ab956f6a159d8"},
		{aKey, aNonce, "", "", "62013be28078c4344c3576f8c18645dd"},
		{aKey, aNonce, "ad", "", "bf81ddc3e41d8f91d189c97ac5a1980e"},
		{aKey, aNonce, "", "some text", "477ed6afb8d1132a8f6161d0485a81f360891a5a3ccbfbf8af"},
		{aKey, aNonce, "ad", "some text", "477ed6afb8d1132a8fd52ccddb5246f13fab735c157e53164a"},
		{aKey, aNonce, rising(1, 300), "some text", "477ed6afb8d1132a8f405eed0f452a09f92a4ea0ce1a3bb832"},
		{rising(200, 64), other, "\x00", rising(7, 64), "56c064fb6c319a7e0626589db395c791f2df9da7549415586a93d8b4605e15d73c4805b8b8eb0cca21b63c658e93b899cf18bf206dcdcf3b2de78c25518b889594b4d7510ccf6bfdcfe1eb1bc2cb0469"},
		{rising(200, 64), other, "\x00\x00", rising(7, 65), "56c064fb6c319a7e0626589db395c791f2df9da7549415586a93d8b4605e15d73c4805b8b8eb0cca21b63c658e93b899cf18bf206dcdcf3b2de78c25518b889594b77dfaab317338f643d33bef8f8ec043"},
	} {
		got := box.Seal(c.key, c.nonce, c.ad, c.plain)
		if hex.EncodeToString([]byte(got)) != c.want {
			t.Errorf("6.1: %q, %d bytes around: %x, not %s", c.plain, len(c.ad), got, c.want)
		}
		want, err := hex.DecodeString(c.want)
		if err != nil {
			t.Fatal(err)
		}
		opens(t, c.key, c.nonce, c.ad, string(want), c.plain)
	}
}

// 6.1, 6.2 and 6.3, for plains of many lengths in bytes of many lengths.
func TestSealByTheDocument(t *testing.T) {
	r := rand.New(rand.NewSource(6))
	for _, n := range lengths() {
		for _, ad := range arounds() {
			key, nonce, plain := some(r, pairSize), some(r, nonceSize), some(r, n)
			sealed := box.Seal(key, nonce, ad, plain)
			if want := slowSeal(key, nonce, ad, plain); sealed != want {
				t.Errorf("6.1: %d bytes, %d around: %.50x, not %.50x", n, len(ad), sealed, want)
			}
			if len(sealed) != n+tagSize {
				t.Errorf("6.3: %d bytes sealed as %d", n, len(sealed))
			}
			opens(t, key, nonce, ad, sealed, plain)
		}
	}
}

// 6.1: how many bytes are around, where that takes all of three bytes and four.
func TestManyBytesAround(t *testing.T) {
	for _, n := range []int{1<<16 - 1, 1 << 16, 1<<16 + 1, 1<<24 - 1, 1 << 24, 1<<24 + 1} {
		ad := strings.Repeat("a", n)
		sealed := box.Seal(aKey, aNonce, ad, "some text")
		if sealed != slowSeal(aKey, aNonce, ad, "some text") {
			t.Errorf("6.1: %d bytes around: %x", n, sealed)
		}
		opens(t, aKey, aNonce, ad, sealed, "some text")
		none(t, "a byte fewer around", aKey, aNonce, ad[1:], sealed)
	}
}

// 6.1: empty, where the key is no pair.
func TestSealKeys(t *testing.T) {
	for n := range 2*pairSize + 10 {
		for _, plain := range []string{"", "x", rising(3, 100)} {
			got := box.Seal(rising(0, n), aNonce, "ad", plain)
			if (got != "") != (n == pairSize) {
				t.Errorf("6.1: a key of %d bytes: %d bytes", n, len(got))
			}
		}
	}
}

// 6.1: empty, where the nonce is none.
func TestSealNonces(t *testing.T) {
	for n := range 70 {
		for _, plain := range []string{"", "x", rising(3, 100)} {
			got := box.Seal(aKey, rising(0, n), "ad", plain)
			if (got != "") != (n == nonceSize) {
				t.Errorf("6.1: a nonce of %d bytes: %d bytes", n, len(got))
			}
		}
	}
	if got := box.Seal("", "", "", ""); got != "" {
		t.Errorf("6.1: no key, no nonce: %d bytes", len(got))
	}
	if got := box.Seal(aKey+aNonce, "", "", "x"); got != "" {
		t.Errorf("6.1: the nonce behind the key: %d bytes", len(got))
	}
}

// 6.1, 6.2, 6.3: the longest plain, those around it, and what is too long,
// which does not open even if its tag fits.
func TestLongest(t *testing.T) {
	text := rising(9, 2*most)
	for _, n := range []int{most - blockSize, most - 1, most, most + 1, most + tagSize, most + blockSize, 2 * most} {
		plain := text[:n]
		sealed, want := box.Seal(aKey, aNonce, "ad", plain), slowSeal(aKey, aNonce, "ad", plain)
		if n > most {
			if sealed != "" {
				t.Errorf("6.1: %d bytes sealed as %d", n, len(sealed))
			}
			none(t, strconv.Itoa(n)+" bytes", aKey, aNonce, "ad", want)
			continue
		}
		if sealed != want || len(sealed) != n+tagSize {
			t.Errorf("6.1: %d bytes sealed as %d", n, len(sealed))
		}
		opens(t, aKey, aNonce, "ad", sealed, plain)
		none(t, "a byte more", aKey, aNonce, "ad", sealed+"x")
		none(t, "a byte fewer", aKey, aNonce, "ad", sealed[1:])
		none(t, "a bit turned", aKey, aNonce, "ad", flipped(sealed, n-1, 1))
	}
}

// 6.2: the key, or the nonce, is none: nothing is sealed by it, though a tag fits.
func TestOpenSizes(t *testing.T) {
	for n := range 2*pairSize + 10 {
		if n == pairSize {
			continue
		}
		key := rising(0, n)
		for _, sealed := range []string{"", strings.Repeat("\x00", tagSize), box.Seal(aKey, aNonce, "ad", "text"), slowTag(key, aNonce, "ad", ""), "text" + slowTag(key, aNonce, "ad", "text")} {
			none(t, "a key of "+strconv.Itoa(n)+" bytes", key, aNonce, "ad", sealed)
		}
	}
	for n := range 70 {
		if n == nonceSize {
			continue
		}
		nonce := rising(100, n)
		for _, sealed := range []string{"", strings.Repeat("\x00", tagSize), box.Seal(aKey, aNonce, "ad", "text"), slowTag(aKey, nonce, "ad", ""), "text" + slowTag(aKey, nonce, "ad", "text")} {
			none(t, "a nonce of "+strconv.Itoa(n)+" bytes", aKey, nonce, "ad", sealed)
		}
	}
	none(t, "nothing at all", "", "", "", "")
}

// 6.2: less than a tag, a tag alone, and what is no tag.
func TestOpenShort(t *testing.T) {
	for _, ad := range []string{"", "ad"} {
		tag := box.Seal(aKey, aNonce, ad, "")
		opens(t, aKey, aNonce, ad, tag, "")
		for n := range tagSize {
			none(t, "the beginning of a tag", aKey, aNonce, ad, tag[:n])
			none(t, "the end of a tag", aKey, aNonce, ad, tag[tagSize-n:])
			none(t, "noughts", aKey, aNonce, ad, strings.Repeat("\x00", n))
			for bit := range 8 {
				none(t, "a tag with a bit turned", aKey, aNonce, ad, flipped(tag, n, 1<<bit))
			}
		}
		none(t, "noughts", aKey, aNonce, ad, strings.Repeat("\x00", tagSize))
		none(t, "a tag of something", aKey, aNonce, ad, box.Seal(aKey, aNonce, ad, "x")[1:])
		none(t, "something with a tag of nothing", aKey, aNonce, ad, "x"+tag)
		none(t, "a plain", aKey, aNonce, ad, "some text that nobody sealed")
	}
}

// 6.2: a byte turned anywhere, in one bit, some, or all.
func TestOpenTurned(t *testing.T) {
	for _, n := range lengths() {
		sealed := box.Seal(aKey, aNonce, "ad", rising(3, n))
		for at := range sealed {
			for _, by := range []byte{1, 0x80, 0xff} {
				none(t, "a byte turned at "+strconv.Itoa(at)+" of "+strconv.Itoa(len(sealed)), aKey, aNonce, "ad", flipped(sealed, at, by))
			}
		}
	}
}

// 6.2: all bits of one, and two bytes turned by the same bits.
func TestOpenTurnedBits(t *testing.T) {
	sealed := box.Seal(aKey, aNonce, "ad", "some text")
	for at := range sealed {
		for bit := range 8 {
			once := flipped(sealed, at, 1<<bit)
			none(t, "a bit turned", aKey, aNonce, "ad", once)
			for other := range at {
				none(t, "two bytes turned", aKey, aNonce, "ad", flipped(once, other, 1<<bit))
			}
		}
	}
}

// 6.2: bytes more or fewer, at each end, and anywhere.
func TestOpenCut(t *testing.T) {
	for _, n := range lengths() {
		sealed := box.Seal(aKey, aNonce, "ad", rising(3, n))
		for at := range sealed {
			none(t, "the beginning", aKey, aNonce, "ad", sealed[:at])
			none(t, "the end", aKey, aNonce, "ad", sealed[at+1:])
			none(t, "a byte fewer", aKey, aNonce, "ad", sealed[:at]+sealed[at+1:])
			none(t, "a byte more", aKey, aNonce, "ad", sealed[:at]+"x"+sealed[at:])
			none(t, "a byte twice", aKey, aNonce, "ad", sealed[:at+1]+sealed[at:])
		}
		for _, more := range []string{"\x00", "x", sealed} {
			none(t, "more behind", aKey, aNonce, "ad", sealed+more)
			none(t, "more ahead", aKey, aNonce, "ad", more+sealed)
		}
	}
}

// 6.2: the tag is the first of a sum's bytes, neither others nor more of them.
func TestOpenOtherTags(t *testing.T) {
	plain := "some text"
	sealed := box.Seal(aKey, aNonce, "ad", plain)
	c := sealed[:len(plain)]
	h := known.New(sha256.New, []byte(aKey[halfSize:]))
	h.Write([]byte("\x00\x00\x00\x00\x00\x00\x00\x02ad" + aNonce + c))
	sum := string(h.Sum(nil))
	opens(t, aKey, aNonce, "ad", c+sum[:tagSize], plain)
	for n := range len(sum) + 1 {
		if n != tagSize {
			none(t, "another part of the sum", aKey, aNonce, "ad", c+sum[:n])
		}
	}
	none(t, "the sum's end", aKey, aNonce, "ad", c+sum[tagSize:])
	none(t, "the tag of the plain", aKey, aNonce, "ad", c+slowTag(aKey, aNonce, "ad", plain))
	none(t, "the tag by the first half", aKey, aNonce, "ad", c+slowTag(aKey[halfSize:]+aKey[:halfSize], aNonce, "ad", c))
	none(t, "the tag ahead", aKey, aNonce, "ad", sum[:tagSize]+c)
}

// 6.2: another key, in each of its bytes, and each half of it another.
func TestOpenByAnotherKey(t *testing.T) {
	for _, plain := range []string{"", "some text", rising(3, 200)} {
		sealed := box.Seal(aKey, aNonce, "ad", plain)
		for at := range pairSize {
			key := flipped(aKey, at, 1)
			got, ok := box.Open(key, aNonce, "ad", sealed)
			// By another first half alone the tag fits: that is the Seal of another plain.
			if at < halfSize {
				if !ok || box.Seal(key, aNonce, "ad", got) != sealed || plain != "" && got == plain {
					t.Errorf("6.2: the key turned at %d: %v, %d bytes", at, ok, len(got))
				}
			} else if ok || got != "" {
				t.Errorf("6.2: the key turned at %d: %v, %d bytes", at, ok, len(got))
			}
			if len(plain) > 0 && box.Seal(key, aNonce, "ad", plain) == sealed {
				t.Errorf("6.1: the key turned at %d seals alike", at)
			}
		}
		none(t, "the halves turned round", aKey[halfSize:]+aKey[:halfSize], aNonce, "ad", sealed)
		none(t, "the first half twice", aKey[:halfSize]+aKey[:halfSize], aNonce, "ad", sealed)
		none(t, "another key", rising(1, pairSize), aNonce, "ad", sealed)
		none(t, "a key of noughts", strings.Repeat("\x00", pairSize), aNonce, "ad", sealed)
	}
}

// 6.2: another nonce, in each of its bytes.
func TestOpenByAnotherNonce(t *testing.T) {
	for _, plain := range []string{"", "some text", rising(3, 200)} {
		sealed := box.Seal(aKey, aNonce, "ad", plain)
		for at := range nonceSize {
			for bit := range 8 {
				none(t, "the nonce turned at "+strconv.Itoa(at), aKey, flipped(aNonce, at, 1<<bit), "ad", sealed)
			}
		}
		none(t, "the nonce moved on", aKey, aNonce[1:]+aNonce[:1], "ad", sealed)
		none(t, "a nonce of noughts", aKey, strings.Repeat("\x00", nonceSize), "ad", sealed)
	}
}

// 6.2: other bytes around, turned, cut, longer, none, and some where none were.
func TestOpenInOtherBytes(t *testing.T) {
	for _, ad := range arounds() {
		for _, plain := range []string{"", "some text", rising(3, 200)} {
			sealed := box.Seal(aKey, aNonce, ad, plain)
			for at := 0; at < len(ad); at += 1 + at/8 {
				none(t, "turned around", aKey, aNonce, flipped(ad, at, 1), sealed)
				none(t, "less around", aKey, aNonce, ad[:at], sealed)
				none(t, "a byte fewer around", aKey, aNonce, ad[:at]+ad[at+1:], sealed)
			}
			for _, more := range []string{"\x00", "x", ad + "x", aNonce, sealed} {
				none(t, "more around, behind", aKey, aNonce, ad+more, sealed)
				none(t, "more around, ahead", aKey, aNonce, more+"\x00"+ad, sealed)
			}
		}
	}
}

// 6.1, 6.2: bytes moved from one part to the next, all in one order, have another tag.
func TestMoved(t *testing.T) {
	all := rising(0, 20) + aNonce + rising(60, 40)
	for from := range 40 {
		// What is sealed by this cut: so many around, then the nonce, then the sealed bytes.
		ad, nonce, c := all[:from], all[from:from+nonceSize], all[from+nonceSize:]
		sealed := c + slowTag(aKey, nonce, ad, c)
		got, ok := box.Open(aKey, nonce, ad, sealed)
		if !ok || box.Seal(aKey, nonce, ad, got) != sealed {
			t.Errorf("6.2: %d around: %v", from, ok)
		}
		for to := range 40 {
			if to == from {
				continue
			}
			moved := all[to+nonceSize:] + sealed[len(c):]
			none(t, "moved from "+strconv.Itoa(from)+" to "+strconv.Itoa(to)+" around", aKey, all[to:to+nonceSize], all[:to], moved)
		}
	}
}

// 6.1: by one key and nonce, what is around turns the tag alone.
func TestAroundIsNotInTheBytes(t *testing.T) {
	plain := rising(3, 100)
	tags := map[string]int{}
	c := box.Seal(aKey, aNonce, "", plain)[:len(plain)]
	for i, ad := range arounds() {
		sealed := box.Seal(aKey, aNonce, ad, plain)
		if sealed[:len(plain)] != c {
			t.Errorf("6.1: %d bytes around turn what is sealed", len(ad))
		}
		tag := sealed[len(plain):]
		if other, has := tags[tag]; has {
			t.Errorf("6.1: %d and %d have one tag", i, other)
		}
		tags[tag] = i
	}
}

// apart tells whether a and b share no byte of memory.
func apart(a, b string) bool {
	if a == "" || b == "" {
		return true
	}
	at, to := uintptr(unsafe.Pointer(unsafe.StringData(a))), uintptr(unsafe.Pointer(unsafe.StringData(b)))
	return at >= to+uintptr(len(b)) || to >= at+uintptr(len(a))
}

// R3: what is handed in stays as it was, and what is told is new memory; R5:
// the same calls tell the same.
func TestLeavesWhatIsHandedIn(t *testing.T) {
	for _, n := range append(lengths(), most, most+1) {
		in := []string{rising(0, pairSize), rising(100, nonceSize), rising(50, 300), rising(3, n)}
		kept := strings.Join(in, "")
		sealed := box.Seal(in[0], in[1], in[2], in[3])
		if box.Seal(in[0], in[1], in[2], in[3]) != sealed {
			t.Errorf("R5: Seal of %d bytes", n)
		}
		keptSealed := strings.Clone(sealed)
		plain, ok := box.Open(in[0], in[1], in[2], sealed)
		if again, too := box.Open(in[0], in[1], in[2], sealed); again != plain || too != ok {
			t.Errorf("R5: Open of %d bytes", len(sealed))
		}
		box.Open(in[0], in[1], "", sealed)
		if strings.Join(in, "") != kept || sealed != keptSealed {
			t.Errorf("R3: %d bytes: what was handed in was turned", n)
		}
		for _, part := range append(in, sealed) {
			// A text of one byte is one and the same wherever Go makes it.
			if len(plain) > 1 && !apart(plain, part) {
				t.Errorf("R3: %d bytes: the plain is what was handed in", n)
			}
		}
		for _, part := range in {
			if !apart(sealed, part) {
				t.Errorf("R3: %d bytes: the sealed is what was handed in", n)
			}
		}
	}
}

// R1: much that nobody sealed is told in time.
func TestOpenMuch(t *testing.T) {
	none(t, "much", aKey, aNonce, "ad", strings.Repeat("\x00", 1<<26))
}

// 6.2: what Open tells has that Seal; what is sealed opens.
func FuzzOpen(f *testing.F) {
	for _, n := range []int{0, 1, 64, 65} {
		for _, ad := range []string{"", "ad", "\x00"} {
			f.Add(aKey, aNonce, ad, box.Seal(aKey, aNonce, ad, rising(3, n)))
		}
	}
	f.Add("", "", "", "")
	f.Add(aKey[1:], aNonce, "ad", "sealed by nobody, though as long as a tag")
	f.Fuzz(func(t *testing.T, key, nonce, ad, s string) {
		plain, ok := box.Open(key, nonce, ad, s)
		if ok && box.Seal(key, nonce, ad, plain) != s || !ok && plain != "" {
			t.Errorf("6.2: Open(%x, %x, %x, %x) = %x, %v", key, nonce, ad, s, plain, ok)
		}
		sealed := box.Seal(key, nonce, ad, s)
		if may := len(key) == pairSize && len(nonce) == nonceSize && len(s) <= most; may != (sealed != "") {
			t.Fatalf("6.1: Seal(%x, %x, %x, %x) = %x", key, nonce, ad, s, sealed)
		}
		back, ok := box.Open(key, nonce, ad, sealed)
		if ok != (sealed != "") || ok && (back != s || len(sealed) != len(s)+tagSize) {
			t.Errorf("6.2, 6.3: %x sealed as %x: %x, %v", s, sealed, back, ok)
		}
	})
}

func BenchmarkSeal(b *testing.B) {
	for _, n := range []int{0, 64, 1024, 16384, most} {
		b.Run(strconv.Itoa(n), func(b *testing.B) {
			plain := rising(0, n)
			b.SetBytes(int64(n))
			for b.Loop() {
				box.Seal(aKey, aNonce, "ad", plain)
			}
		})
	}
}

func BenchmarkOpen(b *testing.B) {
	for _, n := range []int{0, 64, 1024, 16384, most} {
		b.Run(strconv.Itoa(n), func(b *testing.B) {
			sealed := box.Seal(aKey, aNonce, "ad", rising(0, n))
			b.SetBytes(int64(n))
			for b.Loop() {
				box.Open(aKey, aNonce, "ad", sealed)
			}
		})
	}
}
