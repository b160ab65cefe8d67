package pad_test

import (
	"math"
	"math/rand"
	"slices"
	"strings"
	"testing"
	"unsafe"

	"deaddrop/pad"
)

// buckets are those that 5.1 names.
var buckets = []int{64, 256, 1024, 4096, 16384}

// greatest is the last of them: texts as long as it have none.
const greatest = 16384

// slowBucket is 5.1 word by word.
func slowBucket(n int) int {
	at := slices.IndexFunc(buckets, func(b int) bool { return b > n })
	if n < 0 || at < 0 {
		return 0
	}
	return buckets[at]
}

// slowPad is 5.1 byte by byte; false: there is none.
func slowPad(s string) (string, bool) {
	b := append([]byte(s), 128)
	for len(b) < slowBucket(len(s)) {
		b = append(b, 0)
	}
	if len(s) >= greatest {
		return "", false
	}
	return string(b), true
}

// slowUnpad asks each text that s begins with, and that has the byte 128 behind
// it, whether s is its Pad.
func slowUnpad(s string) (string, bool) {
	for n := range len(s) {
		if s[n] != 128 {
			continue
		}
		if p, ok := slowPad(s[:n]); ok && p == s {
			return s[:n], true
		}
	}
	return "", false
}

// filled is n bytes, of which the last are end's last.
func filled(n int, end string) string {
	s := strings.Repeat("y", n) + end
	return s[len(s)-n:]
}

// ends are how texts end that might be taken for padding.
var ends = []string{"", "x", "\x00", "\x80", "\x00\x00\x00", "\x80\x80", "\x80\x00", "\x00\x80", "\x80\x00\x00\x80\x00", "\x7f", "\x81", "\xff", "\xc2\x80", "é"}

// lengths are 0 and its neighbours, and those around each bucket.
func lengths() []int {
	l := []int{0, 1, 2, 3, 5, 31, 200, 1000, 3000, 10000}
	for _, b := range buckets {
		l = append(l, b-2, b-1, b, b+1)
	}
	return l
}

// brief is how s begins, for a message.
func brief(s string) string {
	return s[:min(len(s), 40)]
}

// 5.1: each bucket's edges, written out, and numbers that have none.
func TestBucketKnown(t *testing.T) {
	for _, c := range [][2]int{
		{0, 64}, {1, 64}, {62, 64}, {63, 64}, {64, 256}, {65, 256}, {254, 256}, {255, 256}, {256, 1024}, {257, 1024},
		{1023, 1024}, {1024, 4096}, {1025, 4096}, {4095, 4096}, {4096, 16384}, {4097, 16384}, {16382, 16384}, {16383, 16384},
		{16384, 0}, {16385, 0}, {65535, 0}, {65536, 0}, {1 << 31, 0}, {1<<32 + 1, 0}, {1 << 62, 0}, {math.MaxInt - 1, 0}, {math.MaxInt, 0},
		{-1, 0}, {-2, 0}, {-63, 0}, {-64, 0}, {-16384, 0}, {-1 << 31, 0}, {-1<<32 + 1, 0}, {math.MinInt + 1, 0}, {math.MinInt, 0},
	} {
		if got := pad.Bucket(c[0]); got != c[1] {
			t.Errorf("5.1: Bucket(%d) = %d, not %d", c[0], got, c[1])
		}
	}
}

// 5.1: all numbers up to behind the greatest bucket, and as many below 0.
func TestBucketAll(t *testing.T) {
	for n := -greatest - 10; n < 2*greatest; n++ {
		if got, want := pad.Bucket(n), slowBucket(n); got != want {
			t.Fatalf("5.1: Bucket(%d) = %d, not %d", n, got, want)
		}
	}
}

// 5.1: the text, the byte 128, noughts, written out; Unpad tells the text again.
func TestPadKnown(t *testing.T) {
	x := func(n int) string { return strings.Repeat("x", n) }
	noughts := func(n int) string { return strings.Repeat("\x00", n) }
	for _, c := range []struct{ s, want string }{
		{"", "\x80" + noughts(63)},
		{"a", "a\x80" + noughts(62)},
		{"\x80", "\x80\x80" + noughts(62)},
		{"\x00", "\x00\x80" + noughts(62)},
		{"\x80\x00\x00", "\x80\x00\x00\x80" + noughts(60)},
		{"\x80" + noughts(63), "\x80" + noughts(63) + "\x80" + noughts(191)},
		{" \t\n a \n", " \t\n a \n\x80" + noughts(56)},
		{"\x00\x00a", "\x00\x00a\x80" + noughts(60)},
		{"\xc3\x28\xff", "\xc3\x28\xff\x80" + noughts(60)},
		{noughts(63), noughts(63) + "\x80"},
		{noughts(64), noughts(64) + "\x80" + noughts(191)},
		{x(62), x(62) + "\x80\x00"},
		{x(63), x(63) + "\x80"},
		{x(64), x(64) + "\x80" + noughts(191)},
		{x(255), x(255) + "\x80"},
		{x(256), x(256) + "\x80" + noughts(767)},
		{x(1023), x(1023) + "\x80"},
		{x(1024), x(1024) + "\x80" + noughts(3071)},
		{x(4095), x(4095) + "\x80"},
		{x(4096), x(4096) + "\x80" + noughts(12287)},
		{x(16382), x(16382) + "\x80\x00"},
		{x(16383), x(16383) + "\x80"},
	} {
		if got, ok := pad.Pad(c.s); !ok || got != c.want {
			t.Errorf("5.1: Pad of %d bytes, %q: %v, %d bytes, %q", len(c.s), brief(c.s), ok, len(got), brief(got))
		}
		if got, ok := pad.Unpad(c.want); !ok || got != c.s {
			t.Errorf("5.1: Unpad of the Pad of %d bytes, %q: %v, %d bytes, %q", len(c.s), brief(c.s), ok, len(got), brief(got))
		}
	}
}

// 5.1: texts around each bucket, with ends that look like padding.
func TestPadEnds(t *testing.T) {
	for _, n := range lengths() {
		for _, end := range ends {
			s := filled(n, end)
			p, ok := pad.Pad(s)
			if want, has := slowPad(s); p != want || ok != has {
				t.Errorf("5.1: Pad of %d bytes, the last %q: %v, %d bytes", n, end, ok, len(p))
			}
			if !ok {
				continue
			}
			if got, ok := pad.Unpad(p); !ok || got != s {
				t.Errorf("5.1: Unpad of the Pad of %d bytes, the last %q: %v, %d bytes", n, end, ok, len(got))
			}
		}
	}
}

// 5.1, R4: texts as long as the greatest bucket, and longer, have no Pad, and
// nothing stands beside the false.
func TestPadNone(t *testing.T) {
	for _, n := range []int{greatest, greatest + 1, 2 * greatest, 4*greatest - 1, 4 * greatest, 1 << 20} {
		for _, s := range []string{strings.Repeat("x", n), strings.Repeat("\x00", n), "\x80" + strings.Repeat("\x00", n-1)} {
			if p, ok := pad.Pad(s); ok || p != "" {
				t.Errorf("5.1: Pad of %d bytes: %v, %d bytes", n, ok, len(p))
			}
		}
	}
}

// 5.1, R4: what is no text's Pad has no Unpad, and nothing stands beside the false.
func TestUnpadNone(t *testing.T) {
	noughts := func(n int) string { return strings.Repeat("\x00", n) }
	x := func(n int) string { return strings.Repeat("x", n) }
	for _, c := range []struct{ what, s string }{
		{"nothing", ""},
		{"the mark alone", "\x80"},
		{"the mark, noughts, one too few", "\x80" + noughts(62)},
		{"the mark, noughts, one too many", "\x80" + noughts(64)},
		{"one nought", noughts(1)},
		{"noughts alone", noughts(64)},
		{"noughts alone, the second bucket", noughts(256)},
		{"noughts alone, the greatest bucket", noughts(greatest)},
		{"noughts alone, behind all buckets", noughts(greatest * 4)},
		{"no mark", x(64)},
		{"no mark, noughts", x(60) + noughts(4)},
		{"the byte below the mark", x(63) + "\x7f"},
		{"the byte above the mark", x(63) + "\x81"},
		{"a byte that has the mark's bit", x(63) + "\xff"},
		{"the mark as a rune", x(62) + "\u0080" + noughts(192)},
		{"a byte behind the mark", x(62) + "\x80\x01"},
		{"a byte behind the mark, then noughts", x(10) + "\x80\x01" + noughts(52)},
		{"a byte at the end", x(10) + "\x80" + noughts(52) + "x"},
		{"a text behind the mark", "\x80" + x(63)},
		{"the sign for nought behind the mark", x(10) + "\x80" + strings.Repeat("0", 53)},
		{"in the second bucket for the first", "\x80" + noughts(255)},
		{"in the second bucket for the first, its longest", x(63) + "\x80" + noughts(192)},
		{"in the third bucket for the second", x(64) + "\x80" + noughts(1024-65)},
		{"in the third bucket for the second, its longest", x(255) + "\x80" + noughts(1024-256)},
		{"in the fourth bucket for the third", x(1023) + "\x80" + noughts(4096-1024)},
		{"in the greatest bucket for the fourth", x(4095) + "\x80" + noughts(greatest-4096)},
		{"in the greatest bucket for the first", "\x80" + noughts(greatest-1)},
		{"behind all buckets", x(greatest) + "\x80" + noughts(4*greatest-greatest-1)},
		{"behind all buckets, for none", x(greatest-1) + "\x80" + noughts(3*greatest)},
		{"behind all buckets, no noughts", x(greatest) + "\x80"},
		{"no bucket", x(99) + "\x80"},
		{"no bucket, noughts", x(99) + "\x80" + noughts(28)},
		{"half a bucket", x(10) + "\x80" + noughts(21)},
		{"a bucket's double", x(70) + "\x80" + noughts(57)},
	} {
		if got, ok := pad.Unpad(c.s); ok || got != "" {
			t.Errorf("5.1: %s: Unpad of %d bytes: %v, %d bytes", c.what, len(c.s), ok, len(got))
		}
	}
}

// 5.1: a padded text with one byte more, or fewer, or another byte.
func TestUnpadTurned(t *testing.T) {
	for _, n := range lengths() {
		for _, end := range ends {
			p, ok := pad.Pad(filled(n, end))
			if !ok {
				continue
			}
			short, b := p[:len(p)-1], []byte(p)
			b[n] = 129
			other := string(b)
			b[n], b[len(b)-1] = 128, 1
			for _, s := range []string{p + "\x00", p + "\x80", p + p, "\x00" + p, short, p[1:], short + "\x01", other, string(b)} {
				got, ok := pad.Unpad(s)
				if want, has := slowUnpad(s); got != want || ok != has {
					t.Errorf("5.1: %d bytes, the last %q, turned to %d bytes: %v, %d bytes", n, end, len(s), ok, len(got))
				}
			}
		}
	}
}

// 5.1: bytes of the three that matter, held against the slow way.
func TestUnpadSome(t *testing.T) {
	r := rand.New(rand.NewSource(5))
	told := 0
	for range 20000 {
		b := make([]byte, []int{63, 64, 65, 255, 256, 257}[r.Intn(6)])
		for at := range r.Intn(len(b) + 1) {
			b[at] = "\x00\x80x"[r.Intn(3)]
		}
		got, ok := pad.Unpad(string(b))
		if want, has := slowUnpad(string(b)); got != want || ok != has {
			t.Fatalf("5.1: Unpad(%x) = %x, %v, not %x, %v", b, got, ok, want, has)
		}
		if ok {
			told++
		}
	}
	if told < 1000 {
		t.Errorf("only %d of the inputs have an Unpad", told)
	}
}

// 5.2: texts of one bucket are as long; no others are.
func TestAsLong(t *testing.T) {
	r := rand.New(rand.NewSource(52))
	from := 0
	for _, b := range buckets {
		for n := from; n < b; n++ {
			s := strings.Repeat([]string{"\x00", "\x80", "x", "\xff"}[r.Intn(4)], n)
			if p, ok := pad.Pad(s); !ok || len(p) != b {
				t.Fatalf("5.2: Pad of %d bytes: %v, %d bytes, not %d", n, ok, len(p), b)
			}
		}
		from = b
	}
}

// 5.1: no two texts have one Pad.
func TestPadApart(t *testing.T) {
	from := map[string]string{}
	for _, n := range []int{0, 1, 2, 3, 61, 62, 63, 64, 65, 255, 256} {
		for _, end := range ends {
			s := filled(n, end)
			p, _ := pad.Pad(s)
			if other, has := from[p]; has && other != s {
				t.Errorf("5.1: %q and %q have one Pad", s, other)
			}
			from[p] = s
		}
	}
}

// shared tells whether a and b have a byte of memory together.
func shared(a, b string) bool {
	if a == "" || b == "" {
		return false
	}
	at, to := uintptr(unsafe.Pointer(unsafe.StringData(a))), uintptr(unsafe.Pointer(unsafe.StringData(b)))
	return at < to+uintptr(len(b)) && to < at+uintptr(len(a))
}

// R3: what is told is new memory, and what is handed in is as it was.
func TestNewMemory(t *testing.T) {
	for _, n := range lengths() {
		s := filled(n, "\x80\x00")
		kept := strings.Clone(s)
		p, ok := pad.Pad(s)
		if shared(p, s) || s != kept {
			t.Errorf("R3: Pad of %d bytes", n)
		}
		if !ok {
			continue
		}
		kept = strings.Clone(p)
		if u, ok := pad.Unpad(p); !ok || shared(u, p) || p != kept {
			t.Errorf("R3: Unpad of the Pad of %d bytes", n)
		}
	}
}

// R1, R5: the same calls tell the same.
func TestSameAgain(t *testing.T) {
	for _, n := range lengths() {
		s := filled(n, "\x80\x00")
		p, ok := pad.Pad(s)
		if q, again := pad.Pad(strings.Clone(s)); q != p || again != ok || pad.Bucket(n) != pad.Bucket(n) {
			t.Errorf("R5: Pad of %d bytes", n)
		}
		u, ok := pad.Unpad(p)
		if v, again := pad.Unpad(strings.Clone(p)); v != u || again != ok {
			t.Errorf("R5: Unpad of the Pad of %d bytes", n)
		}
	}
}

// R1: much that is no Pad is told in time.
func TestUnpadMuch(t *testing.T) {
	n := 1 << 24
	s := strings.Repeat("\x00", n)
	if got, ok := pad.Unpad(s); ok || got != "" {
		t.Errorf("5.1: Unpad of %d noughts: %v", n, ok)
	}
	if got, ok := pad.Pad(s); ok || got != "" {
		t.Errorf("5.1: Pad of %d noughts: %v", n, ok)
	}
}

// What Unpad tells has s as its Pad; what it does not tell is no text's.
func FuzzUnpad(f *testing.F) {
	for _, end := range ends {
		for _, n := range []int{0, 10, 63, 64, 256} {
			p, _ := pad.Pad(filled(n, end))
			f.Add(p)
			f.Add(p[:len(p)-1] + "x")
		}
	}
	f.Fuzz(func(t *testing.T, s string) {
		got, ok := pad.Unpad(s)
		if want, has := slowUnpad(s); got != want || ok != has {
			t.Errorf("5.1: Unpad(%q) = %q, %v, not %q, %v", s, got, ok, want, has)
		}
		p, ok := pad.Pad(s)
		if back, has := pad.Unpad(p); ok != has || ok && back != s {
			t.Errorf("5.1: Pad(%q) = %q, %v; back: %q, %v", s, p, ok, back, has)
		}
	})
}

func BenchmarkPad(b *testing.B) {
	s := strings.Repeat("x", 3000)
	b.SetBytes(int64(len(s)))
	for range b.N {
		p, _ := pad.Pad(s)
		pad.Unpad(p)
	}
}
