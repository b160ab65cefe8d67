package box

import (
	"encoding/binary"
	"errors"
	"math"
	"strconv"
	"strings"
	"testing"

	"deaddrop/api"
)

// reasons are all of them.
func reasons() []error {
	return []error{errKey, errNonce, errShort, errLong, errTag}
}

// refused is what is not opened, each for one reason; part and size are those
// that are told.
func refused() []struct {
	key, nonce, sealed, part string
	size                     int
	want                     error
} {
	key, nonce := strings.Repeat("k", api.PairSize), strings.Repeat("n", api.NonceSize)
	sealed := Seal(key, nonce, "", "some text")
	n := len(sealed)
	return []struct {
		key, nonce, sealed, part string
		size                     int
		want                     error
	}{
		{"", nonce, sealed, "key", 0, errKey},
		{key[1:], nonce, sealed, "key", 63, errKey},
		{key + "k", nonce, sealed, "key", 65, errKey},
		{key, "", sealed, "nonce", 0, errNonce},
		{key, nonce[1:], sealed, "nonce", 11, errNonce},
		{key, nonce + "n", sealed, "nonce", 13, errNonce},
		{key, nonce, "", "sealed", 0, errShort},
		{key, nonce, sealed[:api.TagSize-1], "sealed", 15, errShort},
		{key, nonce, sealed[:api.TagSize], "sealed", 16, errTag},
		{key, nonce, sealed[1:], "sealed", n - 1, errTag},
		{key, nonce, sealed + "x", "sealed", n + 1, errTag},
		{key, "m" + nonce[1:], sealed, "sealed", n, errTag},
		{key[1:] + "l", nonce, sealed, "sealed", n, errTag},
		{key, nonce, strings.Repeat("x", maxPlain+api.TagSize), "sealed", maxPlain + 16, errTag},
		{key, nonce, strings.Repeat("x", maxPlain+api.TagSize+1), "sealed", maxPlain + 17, errLong},
	}
}

// Ways: why something is not opened is an error; errors.Is tells it.
func TestReasons(t *testing.T) {
	for _, c := range refused() {
		plain, err := opened(c.key, c.nonce, "", c.sealed)
		for _, why := range reasons() {
			if errors.Is(err, why) != (why == c.want) {
				t.Errorf("%s of %d bytes: %v, told as %v", c.part, c.size, err, why)
			}
		}
		if reason(err) != c.want || plain != "" {
			t.Errorf("%s of %d bytes: %v, not %v, beside %d bytes", c.part, c.size, reason(err), c.want, len(plain))
		}
		if got, ok := Open(c.key, c.nonce, "", c.sealed); ok || got != "" {
			t.Errorf("6.2: %s of %d bytes: %v, %d bytes beside %v", c.part, c.size, ok, len(got), err)
		}
	}
}

// Ways: that error is wrapped, by one that tells of what part, and how long it is.
func TestWrapped(t *testing.T) {
	for _, c := range refused() {
		_, err := opened(c.key, c.nonce, "", c.sealed)
		if err == c.want || errors.Unwrap(err) != c.want {
			t.Errorf("%s of %d bytes: %v is not wrapped once", c.part, c.size, err)
		}
		var r refusal
		if !errors.As(err, &r) || r.part != c.part || r.size != c.size {
			t.Errorf("%s of %d bytes: told as %s of %d", c.part, c.size, r.part, r.size)
		}
		for _, told := range []string{c.part, strconv.Itoa(c.size), c.want.Error()} {
			if !strings.Contains(err.Error(), told) {
				t.Errorf("%s of %d bytes: %q does not tell %q", c.part, c.size, err, told)
			}
		}
		// However often it is wrapped on the way up.
		if again := (refusal{"all", 1, err}); reason(again) != c.want {
			t.Errorf("%s of %d bytes: %v wrapped again", c.part, c.size, reason(again))
		}
	}
}

// Ways: no error is no reason, and what is opened has none; an error that is
// no reason yet does not open either.
func TestNoReason(t *testing.T) {
	if got := reason(nil); got != nil {
		t.Errorf("no error: %v", got)
	}
	key, nonce := strings.Repeat("k", api.PairSize), strings.Repeat("n", api.NonceSize)
	for _, n := range []int{0, 1, 64, 65, maxPlain} {
		plain := strings.Repeat("p", n)
		if got, err := opened(key, nonce, "ad", Seal(key, nonce, "ad", plain)); err != nil || got != plain {
			t.Errorf("%d bytes: %v", n, err)
		}
	}
	other := errors.New("another")
	for _, err := range []error{other, refusal{"all", 1, other}} {
		if reason(err) == nil {
			t.Errorf("%v is no reason", err)
		}
	}
	seen := map[string]bool{}
	for _, why := range reasons() {
		if seen[why.Error()] {
			t.Errorf("two reasons say %q", why)
		}
		seen[why.Error()] = true
	}
}

// 6.1: eight bytes, the highest first.
func TestCount(t *testing.T) {
	for _, n := range []int{0, 1, 2, 255, 256, 65535, 65536, 1<<24 + 1, 1<<31 - 1, 1 << 31, 0x0102030405060708, math.MaxInt} {
		if got, want := count(n), string(binary.BigEndian.AppendUint64(nil, uint64(n))); got != want {
			t.Errorf("6.1: %d is %x, not %x", n, got, want)
		}
	}
}
