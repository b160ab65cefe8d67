package keys_test

import (
	"crypto/hkdf"
	"crypto/sha256"
	"encoding/binary"
	"encoding/hex"
	"math"
	"math/big"
	"math/rand"
	"slices"
	"strings"
	"testing"
	"unsafe"

	"deaddrop/api"
	"deaddrop/box"
	"deaddrop/hmac"
	"deaddrop/keys"
)

const (
	keySize   = 32
	pairSize  = 64
	nonceSize = 12
	most      = 255 * 32
)

// face is a call that tells a key, the word that its info begins with, and how
// many bytes it tells; alone: no number stands behind the word.
type face struct {
	name, word string
	size       int
	alone      bool
	call       func(key string, n int) string
}

// faces are all of them.
func faces() []face {
	return []face{
		{"Own", "own", keySize, false, keys.Own},
		{"Epoch", "epoch", keySize, false, keys.Epoch},
		{"Send", "send", pairSize, false, keys.Send},
		{"Wrap", "wrap", pairSize, true, func(key string, _ int) string { return keys.Wrap(key) }},
	}
}

// info is that of f's key with the number that text writes.
func (f face) info(text string) string {
	if f.alone {
		return f.word
	}
	return f.word + " " + text
}

// number is a number and how it is written.
type number struct {
	n    int
	text string
}

// numbers are 0 and its neighbours, those where a digit comes, and the ends of
// what an int may be.
func numbers() []number {
	return []number{
		{0, "0"}, {1, "1"}, {2, "2"}, {7, "7"}, {8, "8"}, {9, "9"}, {10, "10"}, {11, "11"}, {12, "12"}, {99, "99"}, {100, "100"}, {101, "101"},
		{255, "255"}, {256, "256"}, {999, "999"}, {1000, "1000"}, {65536, "65536"}, {1 << 20, "1048576"}, {1<<31 - 1, "2147483647"}, {1 << 31, "2147483648"},
		{1<<32 - 1, "4294967295"}, {1 << 32, "4294967296"}, {1<<32 + 1, "4294967297"}, {1 << 52, "4503599627370496"}, {1<<53 + 1, "9007199254740993"},
		{math.MaxInt - 1, "9223372036854775806"}, {math.MaxInt, "9223372036854775807"},
		{-1, "-1"}, {-2, "-2"}, {-9, "-9"}, {-10, "-10"}, {-11, "-11"}, {-99, "-99"}, {-100, "-100"}, {-1 << 31, "-2147483648"}, {-1<<31 - 1, "-2147483649"},
		{-1 << 32, "-4294967296"}, {-1<<53 - 1, "-9007199254740993"}, {math.MinInt + 1, "-9223372036854775807"}, {math.MinInt, "-9223372036854775808"},
	}
}

// rising is n bytes: from, from and 1, and so on.
func rising(from byte, n int) string {
	b := make([]byte, n)
	for i := range b {
		b[i] = from + byte(i)
	}
	return string(b)
}

// some is n bytes of a source that always begins alike.
func some(r *rand.Rand, n int) string {
	b := make([]byte, n)
	r.Read(b)
	return string(b)
}

// sizes are of no key, and of keys about a sum's size and a block's, and more.
var sizes = []int{0, 1, 2, 31, 32, 33, 55, 56, 63, 64, 65, 66, 127, 128, 129, 200, 1000}

// masters are keys to make keys of, each once: all sizes, with whatever bytes.
func masters() []string {
	r := rand.New(rand.NewSource(1))
	var l []string
	for _, n := range sizes {
		l = append(l, rising(1, n), rising(200, n), strings.Repeat("\x00", n), strings.Repeat("\xff", n), strings.Repeat("m", n), some(r, n))
		for _, end := range []string{"\x00", "\x00\x00\x00", "\x01", "\n", " ", "\x80", "é", "own", "own 0"} {
			if len(end) <= n {
				l = append(l, rising(1, n-len(end))+end, strings.Repeat("\x00", n-len(end))+end)
			}
		}
	}
	slices.Sort(l)
	return slices.Compact(l)
}

// slow is the Derive of 14.1 as Go's library tells it.
func slow(t *testing.T, key, info string, n int) string {
	t.Helper()
	out, err := hkdf.Key(sha256.New, []byte(key), []byte("deaddrop"), info, n)
	if err != nil {
		t.Fatal(err)
	}
	return string(out)
}

// brief is how s begins, for a message.
func brief(s string) string {
	return s[:min(len(s), 40)]
}

// 14.1, on bytes that two other programs worked out (openssl, Python).
func TestKnown(t *testing.T) {
	noughts := strings.Repeat("\x00", 64)
	a := rising(0, 32)
	for _, c := range []struct{ what, got, want string }{
		{"Own of m, 0", keys.Own("m", 0), "32cd075cf6cc1bc4eea958f64c97916aec281c5f34134883260437a63959e1dc"},
		{"Own of m, 1", keys.Own("m", 1), "99cf3dfc8daf3b1e8786888d36623de680473f232599ac9b54093f23840d57a9"},
		{"Own of nothing, 0", keys.Own("", 0), "c174b4e1d7f1eed3ca84212c8a17ffd4772a786ef1cd82672cb88b4dac9831ac"},
		{"Own of 32 bytes, 7", keys.Own(a, 7), "c8ec1b82c7f926c086a4687ff80308bd12ebb244b39f0554852513d8b99cca8d"},
		{"Own of 32 bytes, -1", keys.Own(a, -1), "6f2264f1ceb22a0d0b78153604861822cec0b2e7d613bc1c7091d5ffe168b01a"},
		{"Epoch of m, 0", keys.Epoch("m", 0), "9f914dc44fff13f3c15b2747b1a429ea7056bcaf4af7aa4af1d534e320e2d41a"},
		{"Epoch of m, 1", keys.Epoch("m", 1), "b71b371b8d716cd845027aa712dcb1af227101d6d60af603d72e84f1d476082c"},
		{"Epoch of 32 bytes, 2^20", keys.Epoch(a, 1<<20), "ee72fc0142d21cc3aa1b37020639ada0f53ca7fbc049ba7eeb8698e18b05aa29"},
		{"Epoch of 65 bytes, the least", keys.Epoch(rising(3, 65), math.MinInt), "78431b7bdb0e8645c64a445691ae8f2fea9c12d301fce98aebd1cffc5acd292d"},
		{"Send of m, 0", keys.Send("m", 0), "b9c46d7e68cc884862b005933e05cd064bca268b53389ae549fc896bab21e1f69cf72310be711b2290f1f32799cc4b193c7d95c91a7993b7f9d7556b37ce3568"},
		{"Send of 32 bytes, 7", keys.Send(a, 7), "46ae63f49f0e683b5d45e06c927817b83182f7b4f8cc883863240a7e5241ea3f8bdb37e955dbbe0db030837674b1898efabe1a572592f3760a70b34ddc7ee836"},
		{"Send of 64 noughts, 10", keys.Send(noughts, 10), "556a79a5c53ce27a4cdc87e6240181a348ed9022785595cd5ae659f5087332dd04408a4c695e09394d64235a4e7626ccafd3e30f2435eab2d4d09ec1bca0f1b8"},
		{"Send of 200 bytes, the greatest", keys.Send(rising(200, 200), math.MaxInt), "8c64bc0a27f882497396cd4983e5b9d56c6acc37514cc32a8c681e5df906a49ae76405e6c683366c26fbe048083022ab972a0426a28c178a463d85c86503a2b4"},
		{"Wrap of m", keys.Wrap("m"), "9fed98d0c7acf9573d199761c8e215d4b4bb715f0f00d7facfa600867bd0c89ab2d447ac33553d2508a5997bb3d006c624b9ff5085c7b35564755b19392220e7"},
		{"Wrap of nothing", keys.Wrap(""), "2f0809fca82ea021bdeedc0caef79b34eaa5e1773713eaa4c16b5a77c2cfcc3e2be24969016fc2b5f9befc60e33c239f8dd43e399f606c9bd937f58a77014e40"},
		{"Wrap of 32 bytes", keys.Wrap(a), "5f764959b3599979201e4a6726ec0f10883c789fa3279483d6834ed4f87f419ab15f4b0ba04f1b6ecafa50657806fc6a314b2fdc1365833282bb633ea78368e1"},
		{"Wrap of 32 bytes, the last a nought", keys.Wrap(a[:31] + "\x00"), "da9c8f44e66efbc523d0c87bfe6dd4aad112449c628f0c5fd68c9a338080d64fdf1aa0a467f56f576d3e95d505436e7786b196e2ffdccaef8d4f20a0134a13b7"},
	} {
		if got := hex.EncodeToString([]byte(c.got)); got != c.want {
			t.Errorf("14.1: %s: %s, not %s", c.what, got, c.want)
		}
	}
}

// 14.1: each is Derive with that salt, that key, that info, and as many bytes;
// for keys of all sizes, and numbers of all kinds.
func TestByTheDocument(t *testing.T) {
	for _, f := range faces() {
		for _, key := range masters() {
			for _, c := range numbers() {
				got := f.call(key, c.n)
				if want := hmac.Derive("deaddrop", key, f.info(c.text), f.size); got != want || len(got) != f.size {
					t.Fatalf("14.1: %s of %d bytes, %q, and %s: %x, not %x", f.name, len(key), brief(key), c.text, got, want)
				}
				if want := slow(t, key, f.info(c.text), f.size); got != want {
					t.Fatalf("14.1: %s of %d bytes, %q, and %s: %x, not %x", f.name, len(key), brief(key), c.text, got, want)
				}
			}
		}
	}
}

// manyNumbers are all about 0, and about the powers of 2 and of 10.
func manyNumbers() []int {
	l := []int{math.MinInt, math.MinInt + 1, math.MaxInt - 1, math.MaxInt}
	for n := -1100; n <= 1100; n++ {
		l = append(l, n)
	}
	for bit := 11; bit < 63; bit++ {
		p := 1 << bit
		l = append(l, p-1, p, p+1, 1-p, -p, -1-p)
	}
	for p := 10000; p < math.MaxInt/10; p *= 10 {
		l = append(l, p-1, p, p+1, 1-p, -p, -1-p)
	}
	slices.Sort(l)
	return slices.Compact(l)
}

// 14.1, R6: numbers in decimal, with a minus ahead of those below 0, nothing
// ahead of others.
func TestNumbersInInfos(t *testing.T) {
	for _, f := range faces() {
		for _, n := range manyNumbers() {
			text := big.NewInt(int64(n)).String()
			if got, want := f.call("some key", n), slow(t, "some key", f.info(text), f.size); got != want {
				t.Errorf("14.1: %s with the number %s: %x, not %x", f.name, text, got, want)
			}
		}
	}
}

// nearInfos are what is nearly the info of f's key with the number c.
func nearInfos(f face, c number) []string {
	info := f.info(c.text)
	l := []string{
		"", c.text, f.word + c.text, f.word + "  " + c.text, f.word + " +" + c.text, f.word + " 0" + c.text, f.word + " -" + c.text, f.word + " " + c.text + ".0",
		f.word + "\t" + c.text, f.word + "\n" + c.text, f.word + "\x00" + c.text, f.word + "_" + c.text, f.word + ":" + c.text, f.word + " \x00" + c.text,
		c.text + " " + f.word, " " + info, info + " ", info + "\n", info + "\x00", info + "\x01", strings.ToUpper(info), "deaddrop " + info,
		f.word + " a", f.word + " five", f.word + " " + string([]byte{byte(c.n)}), f.word + " " + slowNonce(c.n)[4:],
	}
	if f.alone {
		return append(l, f.word+" "+c.text)
	}
	return append(l, f.word, f.word+" ")
}

// 14.1: what is nearly that info, that salt or that key makes another key.
func TestNearlyThat(t *testing.T) {
	key := rising(5, 32)
	for _, f := range faces() {
		for _, c := range []number{{0, "0"}, {5, "5"}, {10, "10"}, {-5, "-5"}} {
			got := f.call(key, c.n)
			info := f.info(c.text)
			for _, other := range nearInfos(f, c) {
				if hmac.Derive("deaddrop", key, other, f.size) == got {
					t.Errorf("14.1: %s with the number %s goes by the info %q", f.name, c.text, other)
				}
			}
			for _, salt := range []string{"", "d", "deaddro", "deaddrop ", "deaddrop\n", "Deaddrop", "DEADDROP", "dead drop", "dead-drop", f.word, info, key} {
				if hmac.Derive(salt, key, info, f.size) == got {
					t.Errorf("14.1: %s with the number %s goes by the salt %q", f.name, c.text, salt)
				}
			}
			for _, other := range []string{"", "deaddrop", info, key[1:], key[:31], key + "\x00", "\x00" + key, key[:31] + "\x00", hmac.Mac("", key), hmac.Mac("deaddrop", key)} {
				if hmac.Derive("deaddrop", other, info, f.size) == got {
					t.Errorf("14.1: %s with the number %s goes by the key %x", f.name, c.text, other)
				}
			}
		}
	}
}

// 14.1: another key for each word, of one and the same key and number; none is
// a part of another, and a pair's two keys are unlike.
func TestWordsApart(t *testing.T) {
	for _, key := range masters() {
		for _, c := range numbers() {
			var told []string
			for _, f := range faces() {
				s := f.call(key, c.n)
				if len(s) != f.size {
					t.Fatalf("14.1: %s of %d bytes, and %s: %d bytes", f.name, len(key), c.text, len(s))
				}
				for at := 0; at < len(s); at += keySize {
					told = append(told, s[at:at+keySize])
				}
			}
			for i, s := range told {
				if slices.Contains(told[:i], s) {
					t.Fatalf("14.1: of %d bytes, %q, and %s: the same for two words", len(key), brief(key), c.text)
				}
			}
		}
	}
}

// 14.1: another key for each number, those below 0 and beyond 2^32 too; but
// Wrap has none.
func TestNumbersApart(t *testing.T) {
	for _, f := range faces() {
		from := map[string]int{}
		for _, n := range manyNumbers() {
			s := f.call("some key", n)
			other, has := from[s]
			if has != (f.alone && len(from) > 0) {
				t.Errorf("14.1: %s: the same with %d and %d: %v", f.name, other, n, has)
			}
			from[s] = n
		}
	}
}

// 14.1: another key for each key: noughts at the end count, and a key of more
// than a block is not its sum.
func TestKeysApart(t *testing.T) {
	for _, f := range faces() {
		from := map[string]string{}
		for _, key := range masters() {
			all := []string{key, key + "\x00\x00\x00\x00\x00"}
			if sum := sha256.Sum256([]byte(key)); len(key) > 64 {
				all = append(all, string(sum[:]))
			}
			for _, key := range all {
				s := f.call(key, 1)
				if other, has := from[s]; has && other != key {
					t.Errorf("14.1: %s: the same of %q and %q", f.name, brief(key), brief(other))
				}
				from[s] = key
			}
		}
	}
}

// 14.1: each begins as a shorter one of its info would, and is how a longer one
// begins.
func TestShorterAndLonger(t *testing.T) {
	for _, f := range faces() {
		for _, c := range []number{{0, "0"}, {1, "1"}, {-10, "-10"}, {math.MaxInt, "9223372036854775807"}} {
			for _, n := range sizes {
				key := rising(9, n)
				s := f.call(key, c.n)
				for less := range f.size + 1 {
					if want := hmac.Derive("deaddrop", key, f.info(c.text), less); len(want) != less || !strings.HasPrefix(s, want) {
						t.Fatalf("14.1: %s of %d bytes, and %s: begins not as %d bytes would", f.name, n, c.text, less)
					}
				}
				for _, more := range []int{f.size + 1, 2 * f.size, 100, 1000, most} {
					if longer := hmac.Derive("deaddrop", key, f.info(c.text), more); !strings.HasPrefix(longer, s) || len(s) != f.size {
						t.Fatalf("14.1: %s of %d bytes, and %s: %d bytes begin not with it", f.name, n, c.text, more)
					}
				}
			}
		}
	}
}

// 14.1: as many bytes as api says, whatever is handed in.
func TestSizes(t *testing.T) {
	want := map[string]int{"Own": api.KeySize, "Epoch": api.KeySize, "Send": api.PairSize, "Wrap": api.PairSize}
	for _, f := range faces() {
		for _, key := range masters() {
			for _, c := range numbers() {
				if got := f.call(key, c.n); len(got) != want[f.name] {
					t.Fatalf("14.1: %s of %d bytes, and %s: %d bytes", f.name, len(key), c.text, len(got))
				}
			}
		}
	}
	for _, c := range numbers() {
		if got := keys.Nonce(c.n); len(got) != api.NonceSize {
			t.Errorf("14.1: Nonce of %s: %d bytes", c.text, len(got))
		}
	}
}

// 14.1: keys made of keys, as a group makes them, and what is sealed with them
// opens; with the neighbour's it does not.
func TestOneFromAnother(t *testing.T) {
	wrap := keys.Wrap(keys.Own("master", 3))
	send := keys.Send(keys.Epoch("secret", 2), 3)
	if wrap != slow(t, slow(t, "master", "own 3", keySize), "wrap", pairSize) {
		t.Errorf("14.1: Wrap of Own: %x", wrap)
	}
	if send != slow(t, slow(t, "secret", "epoch 2", keySize), "send 3", pairSize) {
		t.Errorf("14.1: Send of Epoch: %x", send)
	}
	for _, pair := range []string{wrap, send} {
		for _, c := range numbers() {
			sealed := box.Seal(pair, keys.Nonce(c.n), "ad", "some text")
			if plain, ok := box.Open(pair, keys.Nonce(c.n), "ad", sealed); !ok || plain != "some text" {
				t.Errorf("14.1: what is sealed with the nonce of %s: %q, %v", c.text, plain, ok)
			}
			if _, ok := box.Open(pair, keys.Nonce(c.n^1), "ad", sealed); ok {
				t.Errorf("14.2: what is sealed with the nonce of %s opens with that of %d", c.text, c.n^1)
			}
		}
	}
}

// 14.1: Nonce, written out.
func TestNonceKnown(t *testing.T) {
	noughts := func(n int) string { return strings.Repeat("\x00", n) }
	for _, c := range []struct {
		n    int
		want string
	}{
		{0, noughts(12)},
		{1, noughts(11) + "\x01"},
		{2, noughts(11) + "\x02"},
		{127, noughts(11) + "\x7f"},
		{128, noughts(11) + "\x80"},
		{255, noughts(11) + "\xff"},
		{256, noughts(10) + "\x01\x00"},
		{0x0102, noughts(10) + "\x01\x02"},
		{0x010203, noughts(9) + "\x01\x02\x03"},
		{1<<31 - 1, noughts(8) + "\x7f\xff\xff\xff"},
		{1 << 31, noughts(8) + "\x80\x00\x00\x00"},
		{1<<32 - 1, noughts(8) + "\xff\xff\xff\xff"},
		{1 << 32, noughts(7) + "\x01\x00\x00\x00\x00"},
		{1 << 52, noughts(5) + "\x10\x00\x00\x00\x00\x00\x00"},
		{0x0102030405060708, "\x00\x00\x00\x00\x01\x02\x03\x04\x05\x06\x07\x08"},
		{0x7edcba9876543210, "\x00\x00\x00\x00\x7e\xdc\xba\x98\x76\x54\x32\x10"},
		{math.MaxInt, "\x00\x00\x00\x00\x7f\xff\xff\xff\xff\xff\xff\xff"},
		{math.MaxInt - 1, "\x00\x00\x00\x00\x7f\xff\xff\xff\xff\xff\xff\xfe"},
		{-1, "\x00\x00\x00\x00\xff\xff\xff\xff\xff\xff\xff\xff"},
		{-2, "\x00\x00\x00\x00\xff\xff\xff\xff\xff\xff\xff\xfe"},
		{-255, "\x00\x00\x00\x00\xff\xff\xff\xff\xff\xff\xff\x01"},
		{-256, "\x00\x00\x00\x00\xff\xff\xff\xff\xff\xff\xff\x00"},
		{-257, "\x00\x00\x00\x00\xff\xff\xff\xff\xff\xff\xfe\xff"},
		{-1 << 31, "\x00\x00\x00\x00\xff\xff\xff\xff\x80\x00\x00\x00"},
		{-1 << 32, "\x00\x00\x00\x00\xff\xff\xff\xff\x00\x00\x00\x00"},
		{-1<<32 - 1, "\x00\x00\x00\x00\xff\xff\xff\xfe\xff\xff\xff\xff"},
		{-0x0102030405060708, "\x00\x00\x00\x00\xfe\xfd\xfc\xfb\xfa\xf9\xf8\xf8"},
		{math.MinInt + 1, "\x00\x00\x00\x00\x80\x00\x00\x00\x00\x00\x00\x01"},
		{math.MinInt, "\x00\x00\x00\x00\x80\x00\x00\x00\x00\x00\x00\x00"},
	} {
		if got := keys.Nonce(c.n); got != c.want {
			t.Errorf("14.1: Nonce of %d: %x, not %x", c.n, got, c.want)
		}
	}
}

// slowNonce is the Nonce of 14.1 by numbers as great as one likes.
func slowNonce(n int) string {
	left := big.NewInt(int64(n))
	if n < 0 {
		left.Add(left, new(big.Int).Lsh(big.NewInt(1), 64))
	}
	return string(left.FillBytes(make([]byte, nonceSize)))
}

// checkNonce tells the test what is wrong with the Nonce of n; 14.2: n can be
// told from it again.
func checkNonce(t *testing.T, n int) {
	t.Helper()
	got := keys.Nonce(n)
	if want := slowNonce(n); got != want {
		t.Fatalf("14.1: Nonce of %d: %x, not %x", n, got, want)
	}
	if len(got) != nonceSize || got[:4] != "\x00\x00\x00\x00" {
		t.Fatalf("14.1: Nonce of %d: %d bytes, that begin with %x", n, len(got), brief(got))
	}
	if back := int(binary.BigEndian.Uint64([]byte(got[4:]))); back != n {
		t.Fatalf("14.2: Nonce of %d is that of %d", n, back)
	}
}

// 14.1: Nonce of many numbers.
func TestNonceByTheDocument(t *testing.T) {
	for _, n := range manyNumbers() {
		checkNonce(t, n)
	}
	r := rand.New(rand.NewSource(2))
	for range 100000 {
		// Numbers of all sizes, not the great alone.
		checkNonce(t, int(r.Uint64())>>r.Intn(64))
	}
}

// 14.2: two numbers have one nonce just if they are the same.
func TestNoncesApart(t *testing.T) {
	l := manyNumbers()
	for i, a := range l {
		for _, b := range l[max(0, i-50):] {
			if (keys.Nonce(a) == keys.Nonce(b)) != (a == b) {
				t.Fatalf("14.2: the nonces of %d and %d: %x and %x", a, b, keys.Nonce(a), keys.Nonce(b))
			}
		}
	}
	from := map[string]int{}
	for n := -70000; n <= 70000; n++ {
		for _, n := range []int{n, n + 1<<40} {
			s := keys.Nonce(n)
			if other, has := from[s]; has {
				t.Fatalf("14.2: %d and %d have one nonce", other, n)
			}
			from[s] = n
		}
	}
}

// 14.2: each bit of a number turns just one bit of its nonce, another for each.
func TestNonceBits(t *testing.T) {
	for _, c := range numbers() {
		base := keys.Nonce(c.n)
		for bit := range 64 {
			want := []byte(base)
			want[nonceSize-1-bit/8] ^= 1 << (bit % 8)
			if got := keys.Nonce(c.n ^ 1<<bit); got != string(want) {
				t.Errorf("14.2: Nonce of %s with the bit %d turned: %x, not %x", c.text, bit, got, want)
			}
		}
	}
}

// 14.2: numbers that are alike in 32 bits, or but for a minus, have unlike nonces.
func TestNoncesOfNumbersNearlyAlike(t *testing.T) {
	for _, c := range numbers() {
		for _, other := range []int{c.n + 1<<32, c.n - 1<<32, c.n + 1<<31, c.n + 1<<48, c.n + 1<<56, c.n + math.MinInt, -c.n, ^c.n, c.n + 1, c.n - 1, c.n + 256, c.n << 8, c.n >> 8} {
			if (keys.Nonce(c.n) == keys.Nonce(other)) != (c.n == other) {
				t.Errorf("14.2: the nonces of %s and %d: %x and %x", c.text, other, keys.Nonce(c.n), keys.Nonce(other))
			}
		}
	}
}

// shared tells whether a and b have a byte of memory together.
func shared(a, b string) bool {
	if a == "" || b == "" {
		return false
	}
	at, to := uintptr(unsafe.Pointer(unsafe.StringData(a))), uintptr(unsafe.Pointer(unsafe.StringData(b)))
	return at < to+uintptr(len(b)) && to < at+uintptr(len(a))
}

// R3: what is told is new memory each time, and the key that is handed in stays
// as it was, with what lies behind it.
func TestNewMemory(t *testing.T) {
	for _, n := range sizes {
		whole := rising(1, n) + "what lies behind"
		kept := strings.Clone(whole)
		key := whole[:n]
		var told []string
		for _, f := range faces() {
			told = append(told, f.call(key, 1), f.call(key, 1), f.call(key, 2))
		}
		told = append(told, keys.Nonce(n), keys.Nonce(n), keys.Nonce(0))
		for i, s := range told {
			if shared(s, whole) {
				t.Errorf("R3: of %d bytes: answer %d is what was handed in", n, i)
			}
			for _, other := range told[:i] {
				if shared(s, other) {
					t.Errorf("R3: of %d bytes: answer %d is another one's memory", n, i)
				}
			}
		}
		if whole != kept {
			t.Errorf("R3: of %d bytes: what was handed in was turned", n)
		}
	}
}

// all are the answers of all calls to key and n.
func all(key string, n int) []string {
	told := []string{keys.Nonce(n)}
	for _, f := range faces() {
		told = append(told, f.call(key, n))
	}
	return told
}

// R1, R5: the same calls tell the same, whatever was asked between them, of a
// key that lies elsewhere too.
func TestAgain(t *testing.T) {
	var first [][]string
	for _, key := range masters() {
		for _, c := range numbers() {
			first = append(first, all(key, c.n))
		}
	}
	at := 0
	for _, key := range masters() {
		key = strings.Clone(key)
		for _, c := range numbers() {
			if !slices.Equal(all(key, c.n), first[at]) {
				t.Fatalf("R5: of %d bytes, and %s: another answer", len(key), c.text)
			}
			at++
		}
	}
}

// R1: a key that is very long makes keys in time, as all others do.
func TestLong(t *testing.T) {
	key := strings.Repeat("long", 1<<22)
	for _, f := range faces() {
		if got, want := f.call(key, -7), slow(t, key, f.info("-7"), f.size); got != want {
			t.Errorf("14.1: %s of %d bytes: %x, not %x", f.name, len(key), got, want)
		}
	}
}

// 14.1 for any key and number, 14.2 for any two.
func FuzzKeys(f *testing.F) {
	for _, key := range []string{"", "m", rising(0, 32), rising(0, 64), rising(0, 65) + "\x00"} {
		for _, n := range []int{0, 1, 10, -1, 1 << 32, math.MaxInt, math.MinInt} {
			f.Add(key, n, n^1)
		}
	}
	f.Fuzz(func(t *testing.T, key string, a, b int) {
		for _, c := range faces() {
			info := c.info(big.NewInt(int64(a)).String())
			if got, want := c.call(key, a), slow(t, key, info, c.size); got != want {
				t.Errorf("14.1: %s of %q and %d: %x, not %x", c.name, key, a, got, want)
			}
		}
		checkNonce(t, a)
		if (keys.Nonce(a) == keys.Nonce(b)) != (a == b) {
			t.Errorf("14.2: the nonces of %d and %d: %x and %x", a, b, keys.Nonce(a), keys.Nonce(b))
		}
	})
}

func BenchmarkKeys(b *testing.B) {
	key := rising(0, keySize)
	for _, f := range faces() {
		b.Run(f.name, func(b *testing.B) {
			for b.Loop() {
				f.call(key, 7)
			}
		})
	}
}

func BenchmarkNonce(b *testing.B) {
	for b.Loop() {
		keys.Nonce(1 << 40)
	}
}
