package hmac_test

import (
	"crypto/hkdf"
	known "crypto/hmac"
	"crypto/sha256"
	"encoding/hex"
	"math"
	"math/rand"
	"slices"
	"strconv"
	"strings"
	"testing"

	"deaddrop/hmac"
)

const (
	sumSize = 32
	most    = 255 * sumSize
)

// rising is n bytes: from, from and 1, and so on.
func rising(from byte, n int) string {
	b := make([]byte, n)
	for i := range b {
		b[i] = from + byte(i)
	}
	return string(b)
}

// some is n bytes of a source that always begins alike.
func some(r *rand.Rand, n int) string {
	b := make([]byte, n)
	r.Read(b)
	return string(b)
}

// cut is s in random pieces, some of which are empty.
func cut(r *rand.Rand, s string) []string {
	var parts []string
	for s != "" {
		n := r.Intn(min(len(s), 100) + 1)
		parts = append(parts, s[:n])
		s = s[n:]
	}
	return append(parts, "")
}

// macOf is the sum by key as Go's library tells it.
func macOf(key string, parts ...string) string {
	h := known.New(sha256.New, []byte(key))
	h.Write([]byte(strings.Join(parts, "")))
	return string(h.Sum(nil))
}

// derivedOf is Derive as Go's library tells it.
func derivedOf(t *testing.T, salt, key, info string, n int) string {
	t.Helper()
	out, err := hkdf.Key(sha256.New, []byte(key), []byte(salt), info, n)
	if err != nil {
		t.Fatal(err)
	}
	return string(out)
}

// keySizes are of no key, keys below a block, of a block, above it and far above it.
var keySizes = []int{0, 1, 31, 32, 33, 55, 56, 62, 63, 64, 65, 66, 127, 128, 129, 131, 1000, 100000}

// 3.1, on the numbers of RFC 4231, and on some that another program worked out (openssl).
func TestMacKnown(t *testing.T) {
	again := strings.Repeat
	for _, c := range []struct{ key, text, want string }{
		{again("\x0b", 20), "Hi There", "b0344c61d8db38535ca8afceaf0bf12b881dc200c9833da726e9376c2e32cff7"},
		{"Jefe", "what do ya want for nothing?", "5bdcc146bf60754e6a042426089575c75a003f089d2739839dec58b964ec3843"},
		{again("\xaa", 20), again("\xdd", 50), "773ea91e36800e46854db8ebd09181a72959098b3ef8c122d9635514ced565fe"},
		{rising(1, 25), again("\xcd", 50), "82558a389a443c0ea4cc819899f2083a85f0faa3e578f8077a2e3ff46729665b"},
		{again("\xaa", 131), "Test Using Larger Than Block-Size Key - Hash Key First", "60e431591ee0b67f0d8a26aacbf5b77f8e0bc6213728c5140546040f0ee37f54"},
		{again("\xaa", 131), "This is a test using a larger than block-size key and a larger than block-size data. The key needs to be hashed before being used by the HMAC algorithm.", "9b09ffa71b942fcb27635fbcd5b0e944bfdc63644f0713938a7f51535c3a35e2"},
		{"", "", "b613679a0814d9ec772f95d778c35fc5ff1697c493715653c6c712144292c5ad"},
		{"", "some text", "4afbf337c2877ee03e63cb034e9f9be5965f541995789a1d8f073e88cb011b75"},
		{rising(3, 63), "some text", "2b0aba850cf1dd53c13a71151baac54a2023de4faad259e2c18c35f1224f00a3"},
		{rising(3, 64), "some text", "76bb49584427203b65f84ed9c3bfd2563df8adb170e7a35d51800ebc92d6524e"},
		{rising(3, 65), "some text", "6e824ddde68a0ec6318e973f21e25c36332711b6c8b335d752c2aaf23ea48e92"},
		{rising(3, 1000), "some text", "1d63714af61916a7e73fea062d8c760b8b044cca772a3e6dacfb9870f804dc30"},
	} {
		if got := hex.EncodeToString([]byte(hmac.Mac(c.key, c.text))); got != c.want {
			t.Errorf("3.1: a key of %d bytes, %q: %s, not %s", len(c.key), c.text, got, c.want)
		}
	}
}

// 3.1, for keys of all sizes up to some blocks, and texts around a block's end.
func TestMacOfAllKeys(t *testing.T) {
	r := rand.New(rand.NewSource(1))
	sizes := slices.Clone(keySizes)
	for n := range 200 {
		sizes = append(sizes, n)
	}
	for _, size := range sizes {
		for _, n := range []int{0, 1, 55, 56, 63, 64, 65, 300} {
			key, text := some(r, size), some(r, n)
			if got, want := hmac.Mac(key, text), macOf(key, text); got != want {
				t.Fatalf("3.1: a key of %d bytes, %d bytes: %x, not %x", size, n, got, want)
			}
		}
	}
}

// 3.1: a key above a block is its sum, others are not; a key has noughts behind it.
func TestMacOfKeysThatAreAlike(t *testing.T) {
	for _, size := range keySizes {
		key := rising(5, size)
		sum := sha256.Sum256([]byte(key))
		if same := hmac.Mac(key, "text") == hmac.Mac(string(sum[:]), "text"); same != (size > 64) {
			t.Errorf("3.1: a key of %d bytes is its sum: %v", size, same)
		}
		if same := hmac.Mac(key, "text") == hmac.Mac(key+"\x00", "text"); same != (size < 64) {
			t.Errorf("3.1: a key of %d bytes has noughts behind it: %v", size, same)
		}
	}
}

// 3.1: no parts, empty parts, with and without a key.
func TestMacOfNothing(t *testing.T) {
	for _, size := range keySizes {
		key := rising(5, size)
		want := macOf(key)
		for _, parts := range [][]string{nil, {}, {""}, {"", ""}, make([]string, 100)} {
			if got := hmac.Mac(key, parts...); got != want {
				t.Errorf("3.1: a key of %d bytes, %d empty parts: %x, not %x", size, len(parts), got, want)
			}
		}
	}
}

// 3.1: all parts, one behind the other, however they are cut.
func TestMacOfManyParts(t *testing.T) {
	r := rand.New(rand.NewSource(2))
	for n := range 300 {
		key, text := some(r, r.Intn(150)), some(r, n)
		want := macOf(key, text)
		at := r.Intn(n + 1)
		for _, parts := range [][]string{{text}, {text[:at], text[at:]}, {"", text[:at], "", text[at:], ""}, cut(r, text), cut(r, text), strings.Split(text, "")} {
			if got := hmac.Mac(key, parts...); got != want {
				t.Fatalf("3.1: a key of %d bytes, %d bytes as %d parts: %x, not %x", len(key), n, len(parts), got, want)
			}
		}
	}
}

// 3.2, on the numbers of RFC 5869.
func TestDeriveKnown(t *testing.T) {
	for _, c := range []struct{ salt, key, info, want string }{
		{rising(0, 13), strings.Repeat("\x0b", 22), rising(0xf0, 10), "3cb25f25faacd57a90434f64d0362f2a2d2d0a90cf1a5a4c5db02d56ecc4c5bf34007208d5b887185865"},
		{rising(0x60, 80), rising(0, 80), rising(0xb0, 80), "b11e398dc80327a1c8e7f78c596a49344f012eda2d4efad8a050cc4c19afa97c59045a99cac7827271cb41c65e590e09da3275600c2f09b8367793a9aca3db71cc30c58179ec3e87c14c01d5c1f3434f1d87"},
		{"", strings.Repeat("\x0b", 22), "", "8da4e775a563c18f715f802a063c5a31b8a11f5c5ee1879ec3454e5f3c738d2d9d201395faa4b61a96c8"},
	} {
		if got := hex.EncodeToString([]byte(hmac.Derive(c.salt, c.key, c.info, len(c.want)/2))); got != c.want {
			t.Errorf("3.2: %s, not %s", got, c.want)
		}
	}
}

// 3.2, for salts and keys of many sizes, and lengths around a sum's end.
func TestDeriveOfManyKinds(t *testing.T) {
	r := rand.New(rand.NewSource(3))
	for _, saltSize := range []int{0, 1, 32, 64, 65, 1000} {
		for _, keySize := range []int{0, 1, 32, 64, 65, 1000} {
			salt, key, info := some(r, saltSize), some(r, keySize), some(r, r.Intn(130))
			for _, n := range []int{0, 1, 31, 32, 33, 63, 64, 65, 96, 97, 500} {
				if got, want := hmac.Derive(salt, key, info, n), derivedOf(t, salt, key, info, n); got != want {
					t.Fatalf("3.2: Derive(%x, %x, %x, %d) = %x, not %x", salt, key, info, n, got, want)
				}
			}
		}
	}
}

// 3.2: an empty info, and the bytes that number the sums.
func TestDeriveBySums(t *testing.T) {
	for _, info := range []string{"", "\x01", "info", rising(0, 200)} {
		p, last, want := macOf("salt", "key"), "", ""
		for i := range most / sumSize {
			last = macOf(p, last, info, string([]byte{byte(i + 1)}))
			want += last
		}
		if got := hmac.Derive("salt", "key", info, most); got != want {
			t.Errorf("3.2: an info of %d bytes: %d bytes that are not the sums side by side", len(info), len(got))
		}
	}
}

// 3.2: as many bytes as were asked for, up to as many as there may be.
func TestDeriveLengths(t *testing.T) {
	for _, n := range []int{0, 1, 31, 32, 33, most - 33, most - 32, most - 31, most - 1, most} {
		if got := hmac.Derive("salt", "key", "info", n); got != derivedOf(t, "salt", "key", "info", n) {
			t.Errorf("3.2: length %d: another text, of %d bytes", n, len(got))
		}
	}
}

// 3.2: empty, where the length is none.
func TestDeriveEmpty(t *testing.T) {
	for _, n := range []int{
		-1, -2, -31, -32, -33, -most, -most - 1, math.MinInt32, math.MinInt, math.MinInt + 1,
		most + 1, most + 2, most + 31, most + 32, most + 33, 2 * most, 1 << 16, 1<<31 - 1, 1 << 31, 1 << 32, 1<<32 + 32, 1 << 62, math.MaxInt - 31, math.MaxInt,
	} {
		for _, salt := range []string{"", "salt"} {
			if got := hmac.Derive(salt, "key", "info", n); got != "" {
				t.Errorf("3.2: length %d: %d bytes", n, len(got))
			}
		}
	}
}

// 3.3: each shorter text is the beginning of the longest.
func TestDeriveLessIsABeginning(t *testing.T) {
	for _, info := range []string{"", "info"} {
		all := hmac.Derive("salt", "key", info, most)
		if len(all) != most {
			t.Fatalf("3.3: %d bytes, not %d", len(all), most)
		}
		for n := 0; n <= most; n += 1 + n/100 {
			if hmac.Derive("salt", "key", info, n) != all[:n] {
				t.Fatalf("3.3: %d bytes are no beginning of %d", n, most)
			}
		}
	}
}

// 3.2: texts that are one, however they were made, and texts of which one is a beginning of the other.
func TestEqualByLength(t *testing.T) {
	for n := range 150 {
		a, b := rising(7, n), string([]byte(rising(7, n)))
		if !hmac.Equal(a, a) || !hmac.Equal(a, b) {
			t.Errorf("3.2: two of %d bytes are not one", n)
		}
		for _, other := range []string{a + "\x00", a + "x", "\x00" + a, a + a + "x", a + strings.Repeat("\x00", 256)} {
			if hmac.Equal(a, other) || hmac.Equal(other, a) {
				t.Errorf("3.2: %d bytes and %d are one", n, len(other))
			}
		}
	}
}

// 3.2: one bit at each place, and two bytes that differ in the same bits.
func TestEqualByBytes(t *testing.T) {
	for _, n := range []int{1, 2, 16, 32, 33, 64} {
		a := rising(200, n)
		for at := range n {
			for bit := range 8 {
				b := []byte(a)
				b[at] ^= 1 << bit
				if hmac.Equal(a, string(b)) || hmac.Equal(string(b), a) {
					t.Errorf("3.2: %d bytes that differ in the byte %d, bit %d, are one", n, at, bit)
				}
				if other := (at + 1) % n; other != at {
					b[other] ^= 1 << bit
					if hmac.Equal(a, string(b)) || hmac.Equal(string(b), a) {
						t.Errorf("3.2: %d bytes that differ in the bytes %d and %d, bit %d, are one", n, at, other, bit)
					}
				}
			}
		}
	}
	for _, pair := range [][2]string{{"\x00\xff", "\xff\x00"}, {"ab", "ba"}, {"\x01\x02", "\x02\x01"}, {"\x80", "\x00"}, {"a", "A"}, {"\xc3\x28", "\xef\xbf"}} {
		if hmac.Equal(pair[0], pair[1]) || hmac.Equal(pair[1], pair[0]) {
			t.Errorf("3.2: %q and %q are one", pair[0], pair[1])
		}
	}
}

// R3: the parts stay as they were, with what lies behind them; R5: the same calls tell the same.
func TestLeavesWhatIsHandedIn(t *testing.T) {
	all := []string{rising(0, 55), "", rising(9, 130), "right", "behind"}
	kept := slices.Clone(all)
	for size := range 130 {
		key := rising(1, size)
		for n := range len(all) {
			want := macOf(key, kept[:n]...)
			derived := hmac.Derive("salt", key, "info", 100)
			for range 2 {
				if got := hmac.Mac(key, all[:n]...); got != want {
					t.Errorf("R5: %x, not %x", got, want)
				}
				if got := hmac.Derive("salt", key, "info", 100); got != derived {
					t.Errorf("R5: %x, not %x", got, derived)
				}
			}
		}
	}
	if !slices.Equal(all, kept) {
		t.Errorf("R3: the parts are %q, not %q", all, kept)
	}
}

func BenchmarkMac(b *testing.B) {
	for _, n := range []int{0, 64, 1024, 1 << 20} {
		b.Run(strconv.Itoa(n), func(b *testing.B) {
			text := rising(0, n)
			b.SetBytes(int64(n))
			for b.Loop() {
				hmac.Mac("key", text)
			}
		})
	}
}

func BenchmarkDerive(b *testing.B) {
	for _, n := range []int{32, 64, most} {
		b.Run(strconv.Itoa(n), func(b *testing.B) {
			b.SetBytes(int64(n))
			for b.Loop() {
				hmac.Derive("salt", "key", "info", n)
			}
		})
	}
}
