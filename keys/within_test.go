package keys

import (
	"strings"
	"testing"

	"deaddrop/api"
)

// uses are all of them.
func uses() []use {
	return []use{forOwn, forEpoch, forSend, forWrap}
}

// Ways: keys of two sizes; of what is no use there is none.
func TestSizeOfUses(t *testing.T) {
	for i, want := range []int{api.KeySize, api.KeySize, api.PairSize, api.PairSize} {
		if got := size(uses()[i]); got != want {
			t.Errorf("14.1: a key for %s has %d bytes, not %d", uses()[i], got, want)
		}
	}
	for _, u := range []use{"", "Own", "own ", "own 0", "sends", "key"} {
		if got := size(u); got != 0 {
			t.Errorf("14.1: a key for %q has %d bytes", u, got)
		}
		if got := derived("key", u, string(u)); got != "" {
			t.Errorf("14.1: the key for %q is %x", u, got)
		}
	}
}

// 14.1: no two uses have one info, whatever the numbers are.
func TestInfosApart(t *testing.T) {
	seen := map[string]bool{}
	for _, u := range uses() {
		infos := []string{string(u)}
		for _, n := range []int{-11, -1, 0, 1, 11} {
			infos = append(infos, numbered(u, n))
		}
		for _, info := range infos {
			if seen[info] {
				t.Errorf("14.1: %q is an info twice", info)
			}
			seen[info] = true
			if word, _, _ := strings.Cut(info, " "); word != string(u) {
				t.Errorf("14.1: %q begins not with %q", info, u)
			}
		}
	}
}

// 14.1: the word, one blank, the number.
func TestNumbered(t *testing.T) {
	for _, c := range []struct {
		u    use
		n    int
		want string
	}{
		{forOwn, 0, "own 0"}, {forEpoch, 1, "epoch 1"}, {forSend, -1, "send -1"}, {forWrap, 10, "wrap 10"}, {forOwn, 1 << 40, "own 1099511627776"},
	} {
		if got := numbered(c.u, c.n); got != c.want {
			t.Errorf("14.1: %q, not %q", got, c.want)
		}
	}
}
