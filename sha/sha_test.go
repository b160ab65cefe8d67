package sha_test

import (
	"crypto/sha256"
	"encoding/hex"
	"math/rand"
	"slices"
	"strconv"
	"strings"
	"testing"

	"deaddrop/sha"
)

const sumSize = 32

// rising is n bytes: from, from and 1, and so on.
func rising(from byte, n int) string {
	b := make([]byte, n)
	for i := range b {
		b[i] = from + byte(i)
	}
	return string(b)
}

// some is n bytes of a source that always begins alike.
func some(r *rand.Rand, n int) string {
	b := make([]byte, n)
	r.Read(b)
	return string(b)
}

// sumOf is the sum as Go's library tells it.
func sumOf(parts ...string) string {
	sum := sha256.Sum256([]byte(strings.Join(parts, "")))
	return string(sum[:])
}

// cut is s in random pieces, some of which are empty.
func cut(r *rand.Rand, s string) []string {
	var parts []string
	for s != "" {
		n := r.Intn(min(len(s), 150) + 1)
		parts = append(parts, s[:n])
		s = s[n:]
	}
	return append(parts, "")
}

// 2.1, on numbers that another program worked out (openssl).
func TestSumKnown(t *testing.T) {
	for _, c := range []struct{ text, want string }{
		{"", "e3b0c44298fc1c149afbf4c8996fb92427ae41e4649b934ca495991b7852b855"},
		{"a", "ca978112ca1bbdcafac231b39a23dc4da786eff8147c4e72b9807785afee48bb"},
		{"abc", "ba7816bf8f01cfea414140de5dae2223b00361a396177a9cb410ff61f20015ad"},
		{"message digest", "f7846f55cf23e14eebeab5b4e1550cad5b509e3348fbc4efa3a1413d393cb650"},
		{"abcdbcdecdefdefgefghfghighijhijkijkljklmklmnlmnomnopnopq", "248d6a61d20638b8e5c026930c3e6039a33ce45964ff2167f6ecedd419db06c1"},
		{"abcdefghbcdefghicdefghijdefghijkefghijklfghijklmghijklmnhijklmnoijklmnopjklmnopqklmnopqrlmnopqrsmnopqrstnopqrstu", "cf5b16a778af8380036ce59e7b0492370b249b11e8f07a51afac45037afee9d1"},
		{rising(3, 55), "4653ce834ad1216507f784697481e2134214fb99e203b0e247d86b941b660707"},
		{rising(3, 56), "1d742f4c8c512b0d2811d426f99ccdc16103332fac6c1ae4ffaa27535b2875bb"},
		{rising(3, 63), "191b2ec5f9d8dd469ce7ddc71e282a89ea317915b2f4b40e7138a7795ba1191f"},
		{rising(3, 64), "795430e15796923a557f9da1d980ec9db341e9acd6da682e1cd86303ce6b0b08"},
		{rising(3, 65), "40a81d14a50081b4fdf29d5fb626e24cafdc507026f2de40dec3b0370a0e591e"},
		{rising(3, 119), "743c030eb230f7237bbe4aad4cf53ae536e819bb8aa8a62277dc614d15448570"},
		{rising(3, 120), "0baf2f9f454160ff4386120786e6f8ef725248d3332c98bdd02c7ffc8649f4ee"},
		{rising(3, 128), "db0d88f6150bf6e6a5d4ac9507b9a7a6b0d144e07e2e9ab67be9fe741788550c"},
		{strings.Repeat("a", 1000000), "cdc76e5c9914fb9281a1c7e284d73e67f1809a48a497200e046d39ccc7112cd0"},
	} {
		if got := hex.EncodeToString([]byte(sha.Sum(c.text))); got != c.want {
			t.Errorf("2.1: %d bytes: %s, not %s", len(c.text), got, c.want)
		}
	}
}

// 2.1, for all lengths up to some blocks, of bytes of many kinds.
func TestSumOfAllLengths(t *testing.T) {
	r := rand.New(rand.NewSource(1))
	for n := range 600 {
		for _, s := range []string{some(r, n), strings.Repeat("\x00", n), strings.Repeat("\x80", n), strings.Repeat("\xff", n)} {
			if got, want := sha.Sum(s), sumOf(s); got != want {
				t.Fatalf("2.1: Sum(%x) = %x, not %x", s, got, want)
			}
		}
	}
}

// 2.1: the end mark and the noughts are told from bytes that look like them.
func TestSumTellsEndsApart(t *testing.T) {
	seen := map[string]int{}
	for n := range 200 {
		for _, s := range []string{strings.Repeat("\x00", n), strings.Repeat("\x00", n) + "\x80"} {
			sum := sha.Sum(s)
			if len(sum) != sumSize {
				t.Fatalf("2.1: Sum(%x) has %d bytes", s, len(sum))
			}
			if seen[sum]++; seen[sum] > 1 {
				t.Fatalf("2.1: Sum(%x) came already", s)
			}
		}
	}
}

// 2.1: no parts, and parts with nothing in them.
func TestSumOfNothing(t *testing.T) {
	want := sumOf()
	if want[:4] != "\xe3\xb0\xc4\x42" {
		t.Fatalf("the example is another: %x", want)
	}
	for _, parts := range [][]string{nil, {}, {""}, {"", ""}, make([]string, 100)} {
		if got := sha.Sum(parts...); got != want {
			t.Errorf("2.1: %d empty parts: %x, not %x", len(parts), got, want)
		}
	}
}

// 2.2: one cut, at each place, with and without empty parts beside it.
func TestSumOfTwoParts(t *testing.T) {
	for _, n := range []int{1, 55, 56, 57, 63, 64, 65, 119, 120, 127, 128, 129, 200} {
		s := rising(11, n)
		want := sumOf(s)
		for i := range n + 1 {
			for _, parts := range [][]string{{s[:i], s[i:]}, {"", s[:i], s[i:]}, {s[:i], "", s[i:]}, {s[:i], s[i:], ""}} {
				if got := sha.Sum(parts...); got != want {
					t.Fatalf("2.2: %d bytes, cut at %d into %d: %x, not %x", n, i, len(parts), got, want)
				}
			}
		}
	}
}

// 2.2: pieces of one length, and pieces by chance.
func TestSumOfManyParts(t *testing.T) {
	r := rand.New(rand.NewSource(2))
	for n := range 500 {
		s := some(r, n)
		want := sumOf(s)
		ways := [][]string{cut(r, s), cut(r, s), cut(r, s)}
		for _, size := range []int{1, 7, 32, 55, 56, 63, 64, 65, 128} {
			var parts []string
			for piece := range slices.Chunk([]byte(s), size) {
				parts = append(parts, string(piece))
			}
			ways = append(ways, parts)
		}
		for _, parts := range ways {
			if got := sha.Sum(parts...); got != want {
				t.Fatalf("2.2: %d bytes as %d parts: %x, not %x", n, len(parts), got, want)
			}
		}
	}
}

// 2.1 and 2.2 on a long text, whole and in pieces.
func TestSumOfLongText(t *testing.T) {
	r := rand.New(rand.NewSource(3))
	s := some(r, 3<<20+17)
	want := sumOf(s)
	if got := sha.Sum(s); got != want {
		t.Errorf("2.1: %d bytes: %x, not %x", len(s), got, want)
	}
	if got := sha.Sum(cut(r, s)...); got != want {
		t.Errorf("2.2: %d bytes in pieces: %x, not %x", len(s), got, want)
	}
}

// 2.1: how many bits there were, where that has more than 32 bits itself. (The
// sum was worked out by another program.)
func TestSumOfMoreBitsThanAWordTells(t *testing.T) {
	if testing.Short() {
		t.Skip("takes seconds")
	}
	parts := slices.Repeat([]string{strings.Repeat("a", 1<<20)}, 512)
	want := "20183da6e6cd17d67fb496dca8a25cbadcb0952b8a66f37b3fb5be0c4f082f70"
	if got := hex.EncodeToString([]byte(sha.Sum(append(parts, "bc")...))); got != want {
		t.Errorf("2.1: 2^29 bytes and 2: %s, not %s", got, want)
	}
}

// R3: the parts stay as they were; R5: the same calls tell the same.
func TestSumLeavesWhatIsHandedIn(t *testing.T) {
	all := []string{"left", rising(0, 55), "", rising(9, 130), "right", "behind"}
	kept := slices.Clone(all)
	want := sumOf(all[:5]...)
	for range 3 {
		if got := sha.Sum(all[:5]...); got != want {
			t.Errorf("R5: %x, not %x", got, want)
		}
		if sha.Sum("another", rising(1, 100)) == want {
			t.Error("2.1: another text has the same sum")
		}
	}
	if !slices.Equal(all, kept) {
		t.Errorf("R3: the parts are %q, not %q", all, kept)
	}
}

func BenchmarkSum(b *testing.B) {
	for _, n := range []int{0, 64, 1024, 1 << 20} {
		b.Run(strconv.Itoa(n), func(b *testing.B) {
			text := rising(0, n)
			b.SetBytes(int64(n))
			for b.Loop() {
				sha.Sum(text)
			}
		})
	}
}
