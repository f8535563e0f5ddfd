package disk_test

import (
	"math"
	"testing"

	"bureau/api"
	"bureau/disk"
)

// sealable are numbers that have bytes in common, and such that have none.
func sealable() []api.Words {
	return []api.Words{
		{},
		{1, 2, 3, 4},
		{1, 2, 3, 5},
		{5, 2, 3, 4},
		{0x01020304, 0x05060708, 0x090a0b0c, 0x0d0e0f10},
		{math.MaxUint32, math.MaxUint32, math.MaxUint32, math.MaxUint32},
		{0, 0, 0, 1 << 31},
		{0x80000000, 1, 0, 0xff},
	}
}

// torn is a sector whose first n bytes are new.
func torn(fresh, old api.Sector, n int) api.Sector {
	copy(old[:n], fresh[:n])
	return old
}

func TestP17SealLaysThreeCopies(t *testing.T) {
	s := disk.Seal(api.Words{0x01020304, 0x05060708, 0x090a0b0c, 0x0d0e0f10})
	for i, b := range s {
		wanted := byte(i%16 + 1)
		if i >= 48 {
			wanted = 0
		}
		if b != wanted {
			t.Errorf("byte %d is %d, not %d", i, b, wanted)
		}
	}
}

func TestP17OpenOfAnyBytes(t *testing.T) {
	a, b, c := api.Words{1, 2, 3, 4}, api.Words{1, 2, 3, 5}, api.Words{7, 7, 7, 7}
	lay := func(first, second, third api.Words) api.Sector {
		x, y, s := disk.Seal(first), disk.Seal(second), disk.Seal(third)
		copy(s[:16], x[:])
		copy(s[16:32], y[:])
		return s
	}
	for _, x := range []struct {
		s    api.Sector
		says api.Words
	}{
		{lay(a, a, a), a},
		{lay(a, a, c), a},
		{lay(a, b, c), c},
		{lay(a, c, a), a},
		{lay(c, a, a), a},
		{lay(a, b, b), b},
	} {
		for i := 48; i < len(x.s); i++ {
			x.s[i] = byte(i)
		}
		if w := disk.Open(x.s); w != x.says {
			t.Errorf("%v says %v, not %v", x.s, w, x.says)
		}
	}
}

func TestP18OpenOfSeal(t *testing.T) {
	for _, w := range sealable() {
		if got := disk.Open(disk.Seal(w)); got != w {
			t.Errorf("%v says %v", w, got)
		}
	}
}

func TestP18TornSeals(t *testing.T) {
	for _, old := range sealable() {
		for _, fresh := range sealable() {
			for n := range api.SectorSize + 1 {
				s := torn(disk.Seal(fresh), disk.Seal(old), n)
				says := disk.Open(s)
				if says != old && says != fresh {
					t.Fatalf("%v over %v, torn behind %d: %v", fresh, old, n, says)
				}
				for m := range api.SectorSize + 1 {
					if again := disk.Open(torn(disk.Seal(says), s, m)); again != says {
						t.Fatalf("%v over %v, torn behind %d, anew behind %d: %v, not %v", fresh, old, n, m, again, says)
					}
				}
			}
		}
	}
}
