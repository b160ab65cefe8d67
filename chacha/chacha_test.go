package chacha_test

import (
	"bytes"
	"encoding/binary"
	"encoding/hex"
	"math"
	"math/bits"
	"math/rand"
	"strconv"
	"strings"
	"testing"

	"deaddrop/chacha"
)

const (
	keySize   = 32
	nonceSize = 12
	blockSize = 64
	most      = 1<<32 - 1
)

// rising is n bytes: from, from and 1, and so on.
func rising(from byte, n int) string {
	b := make([]byte, n)
	for i := range b {
		b[i] = from + byte(i)
	}
	return string(b)
}

// some is n bytes of a source that always begins alike.
func some(r *rand.Rand, n int) string {
	b := make([]byte, n)
	r.Read(b)
	return string(b)
}

// slowBlock is 1.1 word by word as the document says it, with a table for what
// the package writes out.
func slowBlock(key, nonce string, counter uint32) string {
	b := []byte("expand 32-byte k" + key)
	b = binary.LittleEndian.AppendUint32(b, counter)
	b = append(b, nonce...)
	var first, w [16]uint32
	for i := range w {
		w[i] = binary.LittleEndian.Uint32(b[4*i:])
	}
	first = w
	turn := func(d, a int, by int) { w[d] = bits.RotateLeft32(w[d]^w[a], by) }
	for range 10 {
		for _, q := range [][4]int{{0, 4, 8, 12}, {1, 5, 9, 13}, {2, 6, 10, 14}, {3, 7, 11, 15}, {0, 5, 10, 15}, {1, 6, 11, 12}, {2, 7, 8, 13}, {3, 4, 9, 14}} {
			w[q[0]] += w[q[1]]
			turn(q[3], q[0], 16)
			w[q[2]] += w[q[3]]
			turn(q[1], q[2], 12)
			w[q[0]] += w[q[1]]
			turn(q[3], q[0], 8)
			w[q[2]] += w[q[3]]
			turn(q[1], q[2], 7)
		}
	}
	var out []byte
	for i := range w {
		out = binary.LittleEndian.AppendUint32(out, w[i]+first[i])
	}
	return string(out)
}

// 1.1, on numbers that another program worked out (openssl), and those of RFC 8439.
func TestBlockKnown(t *testing.T) {
	nonce := "\xff\xfe\x80\x7f\x00\x01\x02\x03\xc3\x28\x0a\x0d"
	for _, c := range []struct {
		key, nonce string
		counter    int
		want       string
	}{
		{rising(0, keySize), "\x00\x00\x00\x09\x00\x00\x00\x4a\x00\x00\x00\x00", 1, "10f1e7e4d13b5915500fdd1fa32071c4c7d1f4c733c068030422aa9ac3d46c4ed2826446079faa0914c2d705d98b02a2b5129cd1de164eb9cbd083e8a2503c4e"},
		{strings.Repeat("\x00", keySize), strings.Repeat("\x00", nonceSize), 0, "76b8e0ada0f13d90405d6ae55386bd28bdd219b8a08ded1aa836efcc8b770dc7da41597c5157488d7724e03fb8d84a376a43b8f41518a11cc387b669b2ee6586"},
		{rising(200, keySize), nonce, 0, "5931e17bfbf9730961eeadb95b7923a5d9d45c534151085c670f31bf0e7581fb77db34981aafb5fcb76d6df8d2fe7131f87a27bcb889fa1eb4628763a51e3142"},
		{rising(200, keySize), nonce, 1, "51c86df1673d97700936498fa081d287e5c784bd4f88084675b3f996437a30f11b602c9293c721e40e860d57bda78daff820861a56f1f20512a7cd6712cfcdd3"},
		{rising(200, keySize), nonce, 255, "325fdb4127bf348c370049340b5bbe4eedb20bfa91f60e0ae509ad8ca0369e4e6730ad5bdf2c7f0a3e3b69b32f5d32b5058f80bfdc0e39629294fd8a2c8775c6"},
		{rising(200, keySize), nonce, 256, "9746572e56d8bb9f1748b9cb6a41cab53cd967d3400aac87c374c09524bb1d39aa226c62ace50e5ce42b9c056d691f48cdf7cbdfe6c3723e4724d4dc052c8388"},
		{rising(200, keySize), nonce, 65536, "e769918c9e33b1390faf7323c83397c46ce0c874d6b15495b48ebbca48810f02804944e9fca1ca06272e92e6423d034eb3fb8ec7583011d8e5de41ce5aef3b23"},
		{rising(200, keySize), nonce, 1<<31 - 1, "69cd77a64ee6c9e89b8e9c0930944e195c1f14d5acebb3afb179657505613994cc6d8d7053f34c03a09945762720ed0c7a0568422398cb4062c51d56662449da"},
		{rising(200, keySize), nonce, 1 << 31, "7f49cb03e91072d7a27ceca538d4155b356db646f8ceebf964e584197f2d27301a400fff4915f37701bd6eb523a04b003e670f6a4e004e7324acb15ebe6cab7b"},
		{rising(200, keySize), nonce, most - 1, "177ec0e538f959fd5d62e2c8aa4db25d916069a1a80b931f1e4b9e92e183096c68e2c7ad8cc09b0dba226abc3326e9e5a7b88c640aa89049c4fe5a851f0f42fa"},
		{rising(200, keySize), nonce, most, "5aadf7f9b27738638f48458182b6fe32d3187052f1fefb29f683322bde13b981a20cd00e55f69de0ea138bf84323b399913120ec7dcf7ab208952f2037f514db"},
	} {
		if got := hex.EncodeToString([]byte(chacha.Block(c.key, c.nonce, c.counter))); got != c.want {
			t.Errorf("1.1: counter %d: %s, not %s", c.counter, got, c.want)
		}
	}
}

// 1.1, on many inputs, held against the slow way.
func TestBlockByTheDocument(t *testing.T) {
	r := rand.New(rand.NewSource(1))
	for range 500 {
		key, nonce, counter := some(r, keySize), some(r, nonceSize), r.Uint32()
		if got, want := chacha.Block(key, nonce, int(counter)), slowBlock(key, nonce, counter); got != want {
			t.Fatalf("1.1: Block(%x, %x, %d) = %x, not %x", key, nonce, counter, got, want)
		}
	}
}

// 1.1: empty, where the key, the nonce or the counter is none.
func TestBlockEmpty(t *testing.T) {
	key, nonce := rising(0, keySize), rising(100, nonceSize)
	for n := range 70 {
		if got := chacha.Block(rising(0, n), nonce, 1); (got != "") != (n == keySize) {
			t.Errorf("1.1: a key of %d bytes: %d bytes", n, len(got))
		}
		if got := chacha.Block(key, rising(0, n), 1); (got != "") != (n == nonceSize) {
			t.Errorf("1.1: a nonce of %d bytes: %d bytes", n, len(got))
		}
	}
	for _, counter := range []int{-1, -2, -most, -most - 1, -most - 2, most + 1, most + 2, 1 << 33, math.MinInt, math.MinInt + 1, math.MaxInt, math.MaxInt - 1} {
		if got := chacha.Block(key, nonce, counter); got != "" {
			t.Errorf("1.1: counter %d: %d bytes", counter, len(got))
		}
	}
	for _, counter := range []int{0, 1, most - 1, most} {
		if got := chacha.Block(key, nonce, counter); len(got) != blockSize {
			t.Errorf("1.1: counter %d: %d bytes", counter, len(got))
		}
	}
}

// 1.2, on the text of RFC 8439.
func TestXorKnown(t *testing.T) {
	text := "Ladies and Gentlemen of the class of '99: If I could offer you only one tip for the future, sunscreen would be it."
	want := "6e2e359a2568f98041ba0728dd0d6981e97e7aec1d4360c20a27afccfd9fae0bf91b65c5524733ab8f593dabcd62b3571639d624e65152ab8f530c359f0861d807ca0dbf500d6a6156a38e088a22b65e52bc514d16ccf806818ce91ab77937365af90bbf74a35be6b40b8eedf2785e42874d"
	got := chacha.Xor(rising(0, keySize), "\x00\x00\x00\x00\x00\x00\x00\x4a\x00\x00\x00\x00", 1, []byte(text))
	if hex.EncodeToString(got) != want {
		t.Errorf("1.2: %x, not %s", got, want)
	}
}

// xorOf is 1.2 by Blocks side by side.
func xorOf(key, nonce string, counter int, b []byte) []byte {
	out := make([]byte, len(b))
	for i := range b {
		out[i] = b[i] ^ chacha.Block(key, nonce, counter+i/blockSize)[i%blockSize]
	}
	return out
}

// 1.2 and 1.3, for all lengths up to some blocks, and a longer one.
func TestXorIsBlocksSideBySide(t *testing.T) {
	r := rand.New(rand.NewSource(2))
	lengths := []int{1000, 4096, 4097}
	for n := 1; n <= 4*blockSize+3; n++ {
		lengths = append(lengths, n)
	}
	for i, n := range lengths {
		key, nonce, b := some(r, keySize), some(r, nonceSize), []byte(some(r, n))
		for _, counter := range []int{0, i, 254, 65534, 1<<31 - 2, most - 100} {
			x := chacha.Xor(key, nonce, counter, b)
			if !bytes.Equal(x, xorOf(key, nonce, counter, b)) {
				t.Fatalf("1.2: %d bytes from %d on: %x of %x", n, counter, x, b)
			}
			if !bytes.Equal(chacha.Xor(key, nonce, counter, x), b) {
				t.Fatalf("1.3: %d bytes from %d on", n, counter)
			}
		}
	}
}

// 1.2 with the last block: as many bytes as blocks are left, and one more.
func TestXorUpToTheLastBlock(t *testing.T) {
	key, nonce := rising(9, keySize), rising(90, nonceSize)
	for blocks := 1; blocks <= 5; blocks++ {
		counter := most - (blocks - 1)
		full := blocks * blockSize
		for _, n := range []int{1, full - blockSize + 1, full - 1, full} {
			b := []byte(rising(7, n))
			x := chacha.Xor(key, nonce, counter, b)
			if !bytes.Equal(x, xorOf(key, nonce, counter, b)) {
				t.Errorf("1.2: %d bytes from %d on", n, counter)
			}
			if !bytes.Equal(chacha.Xor(key, nonce, counter, x), b) {
				t.Errorf("1.3: %d bytes from %d on", n, counter)
			}
		}
		for _, n := range []int{full + 1, full + 2, full + 63, full + 64, full + 65, 10 * full} {
			if x := chacha.Xor(key, nonce, counter, make([]byte, n)); len(x) != 0 {
				t.Errorf("1.2: %d bytes of %d from %d on", len(x), n, counter)
			}
		}
	}
}

// 1.2: nothing, where no Block is.
func TestXorNothing(t *testing.T) {
	key, nonce := rising(0, keySize), rising(100, nonceSize)
	for _, n := range []int{1, 63, 64, 65, 200} {
		b := make([]byte, n)
		for size := range 70 {
			if x := chacha.Xor(rising(0, size), nonce, 1, b); (len(x) != 0) != (size == keySize) {
				t.Errorf("1.2: %d bytes, a key of %d: %d bytes", n, size, len(x))
			}
			if x := chacha.Xor(key, rising(0, size), 1, b); (len(x) != 0) != (size == nonceSize) {
				t.Errorf("1.2: %d bytes, a nonce of %d: %d bytes", n, size, len(x))
			}
		}
		for _, counter := range []int{-1, -2, -most, -most - 1, -most - 2, most + 1, most + 2, 1 << 33, 1 << 62, math.MinInt, math.MaxInt, math.MaxInt - 1} {
			if x := chacha.Xor(key, nonce, counter, b); len(x) != 0 {
				t.Errorf("1.2: %d bytes from %d on: %d bytes", n, counter, len(x))
			}
		}
	}
}

// 1.2 of no bytes at all.
func TestXorOfNoBytes(t *testing.T) {
	key, nonce := rising(0, keySize), rising(100, nonceSize)
	for _, b := range [][]byte{nil, {}, make([]byte, 0, 100)} {
		for _, counter := range []int{0, 1, most, most + 1, -1, math.MinInt, math.MaxInt} {
			for _, x := range [][]byte{chacha.Xor(key, nonce, counter, b), chacha.Xor("", nonce, counter, b), chacha.Xor(key, "", counter, b), chacha.Xor("", "", counter, b)} {
				if len(x) != 0 {
					t.Errorf("1.2: of no bytes from %d on: %x", counter, x)
				}
			}
		}
	}
}

// R3: what is handed in stays as it was, with what lies behind it, in every case.
func TestXorLeavesWhatIsHandedIn(t *testing.T) {
	key, nonce := rising(0, keySize), rising(100, nonceSize)
	for n := 0; n <= 200; n++ {
		all := []byte(rising(3, 300))
		for _, counter := range []int{0, most, -1, most + 1} {
			x := chacha.Xor(key, nonce, counter, all[50:50+n])
			for i := range x {
				x[i] = 0
			}
			_ = append(x, "behind"...)
			if string(all) != rising(3, 300) {
				t.Fatalf("R3: %d bytes from %d on: turned", n, counter)
			}
		}
	}
}

// R3: what is told is new memory, R5: the same calls tell the same.
func TestXorTellsNewMemory(t *testing.T) {
	key, nonce := rising(0, keySize), rising(100, nonceSize)
	for _, n := range []int{1, 63, 64, 65, 200} {
		b := []byte(rising(3, n))
		x := chacha.Xor(key, nonce, 5, b)
		y := chacha.Xor(key, nonce, 5, b)
		want := string(x)
		if string(y) != want {
			t.Errorf("R5: %d bytes: %x, then %x", n, x, y)
		}
		clear(x[:cap(x)])
		if string(y) != want || string(chacha.Xor(key, nonce, 5, b)) != want {
			t.Errorf("R3: %d bytes: one told with another", n)
		}
		clear(b)
		if string(y) != want {
			t.Errorf("R3: %d bytes: told with what was handed in", n)
		}
	}
}

func BenchmarkXor(b *testing.B) {
	key, nonce := rising(0, keySize), rising(100, nonceSize)
	for _, n := range []int{64, 1024, 1 << 20} {
		b.Run(strconv.Itoa(n), func(b *testing.B) {
			text := make([]byte, n)
			b.SetBytes(int64(n))
			for b.Loop() {
				chacha.Xor(key, nonce, 1, text)
			}
		})
	}
}
