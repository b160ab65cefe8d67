package roster

import (
	"testing"

	"deaddrop/api"
)

// Ways: who comes and who goes share which devices count, and no others change.
func TestTake(t *testing.T) {
	var nobody, all present
	for dev := range all {
		all[dev] = true
	}
	for _, from := range []present{nobody, all, {2: true, 7: true}} {
		for kind := -2; kind < 7; kind++ {
			for dev := -3; dev < api.MaxDevs+3; dev++ {
				want := from
				if may(dev) && (kind == api.RAdd || kind == api.RRevoke) {
					want[dev] = kind == api.RAdd
				}
				got := from
				got.take(kind, dev)
				if got != want {
					t.Errorf("16.1: behind kind %d of device %d they are %v, not %v", kind, dev, got, want)
				}
			}
		}
	}
}

// 16.1: devices are from 0 to MaxDevs - 1.
func TestMay(t *testing.T) {
	for dev, want := range map[int]bool{-1 << 63: false, -1 << 32: false, -8: false, -1: false, 0: true, 1: true, 6: true, 7: true, 8: false, 9: false, 256: false, 1 << 32: false, 1<<63 - 1: false} {
		if got := may(dev); got != want {
			t.Errorf("16.1: may(%d) is %v", dev, got)
		}
	}
}

// 16.2: of no records nobody is one.
func TestBehindNone(t *testing.T) {
	if got := behind(nil, 1<<62); got != (present{}) {
		t.Errorf("16.2: behind no records they are %v", got)
	}
}
