package record_test

import (
	"math"
	"math/rand"
	"strconv"
	"strings"
	"testing"

	"bureau/api"
	"bureau/record"
)

// edges are numbers on both sides of each bound between varints of one length and the next, with what these have.
func edges() map[uint64]int {
	all := map[uint64]int{0: 1, 1: 1, 1 << 57: 9, 1<<57 - 1: 9, 1 << 63: 9, 1<<63 - 1: 9, math.MaxUint64 - 1: 9, math.MaxUint64: 9}
	for n := 1; n <= 8; n++ {
		bound := uint64(1) << (7 * n)
		all[bound-2], all[bound-1], all[bound], all[bound+1] = n, n, n+1, n+1
	}
	return all
}

// inBytes is a number in n bytes of the varint's way, by its digits to the base 2, be that its shortest form or not.
func inBytes(u uint64, n int) string {
	digits := strconv.FormatUint(u, 2)
	whole := 7 * n
	if n == 9 {
		whole = 64
	}
	digits = strings.Repeat("0", whole-len(digits)) + digits
	b := []byte{}
	for i := 1; i <= n; i++ {
		ahead := "1"
		if i == n {
			ahead = "0"
		}
		if i == 9 {
			ahead, digits = digits[:1], digits[1:]
		}
		one, err := strconv.ParseUint(ahead+digits[:7], 2, 8)
		if err != nil {
			panic(err)
		}
		b, digits = append(b, byte(one)), digits[7:]
	}
	return string(b)
}

// expectVarint holds a number and its varint against each other, whatever comes behind.
func expectVarint(t *testing.T, u uint64, want string) {
	t.Helper()
	if s := record.PutVarint(u); s != want {
		t.Errorf("PutVarint(%d) = % x, not % x", u, s, want)
	}
	for _, behind := range []string{"", "\x00", "\x80", "\xff\xff", want} {
		if got, n, e := record.Varint(want + behind); got != u || n != len(want) || e != api.OK {
			t.Errorf("Varint(% x) = %d, %d, %v, not %d", want+behind, got, n, e, u)
		}
	}
}

func expectNoVarint(t *testing.T, s string) {
	t.Helper()
	if u, n, e := record.Varint(s); u != 0 || n != 0 || e != api.ErrBad {
		t.Errorf("Varint(% x) = %d, %d, %v, not ErrBad", s, u, n, e)
	}
}

func TestP41Examples(t *testing.T) {
	expectVarint(t, 0, "\x00")
	expectVarint(t, 1, "\x01")
	expectVarint(t, 127, "\x7f")
	expectVarint(t, 128, "\x81\x00")
	expectVarint(t, 300, "\x82\x2c")
	expectVarint(t, 1<<14-1, "\xff\x7f")
	expectVarint(t, 1<<14, "\x81\x80\x00")
	expectVarint(t, 1<<56-1, "\xff\xff\xff\xff\xff\xff\xff\x7f")
	expectVarint(t, 1<<56, "\x80\xc0\x80\x80\x80\x80\x80\x80\x00")
	expectVarint(t, 1<<57, "\x81\x80\x80\x80\x80\x80\x80\x80\x00")
	expectVarint(t, 1<<63|0x80, "\xc0\x80\x80\x80\x80\x80\x80\x80\x80")
	expectVarint(t, math.MaxUint64, "\xff\xff\xff\xff\xff\xff\xff\xff\xff")
	expectNoVarint(t, "")
	expectNoVarint(t, "\x80\x01")
}

func TestP41Edges(t *testing.T) {
	for u, n := range edges() {
		expectVarint(t, u, inBytes(u, n))
	}
}

func TestP41EachBit(t *testing.T) {
	for i := range 64 {
		u := uint64(1) << i
		expectVarint(t, u, inBytes(u, min(i/7+1, 9)))
		expectVarint(t, math.MaxUint64>>i, inBytes(math.MaxUint64>>i, max(min((63-i)/7+1, 9), 1)))
	}
}

func TestP41EndsInTheMidst(t *testing.T) {
	for u := range edges() {
		s := record.PutVarint(u)
		for n := range len(s) {
			expectNoVarint(t, s[:n])
		}
	}
	for n := range 9 {
		expectNoVarint(t, strings.Repeat("\xff", n))
		expectNoVarint(t, strings.Repeat("\x80", n))
	}
}

func TestP41LongerForms(t *testing.T) {
	for u, n := range edges() {
		for longer := n + 1; longer <= 9; longer++ {
			expectNoVarint(t, inBytes(u, longer))
			expectNoVarint(t, inBytes(u, longer)+"\x00\x01")
		}
	}
	expectNoVarint(t, strings.Repeat("\x80", 9))
	expectNoVarint(t, strings.Repeat("\x80", 12))
}

// TestP41AllShort counts what is taken of all texts of one and of two bytes.
func TestP41AllShort(t *testing.T) {
	one, two := 0, 0
	for a := range 256 {
		if _, _, e := record.Varint(string([]byte{byte(a)})); e == api.OK {
			one++
		}
		for b := range 256 {
			if _, n, e := record.Varint(string([]byte{byte(a), byte(b)})); e == api.OK && n == 2 {
				two++
			}
		}
	}
	if one != 128 || two != 127*128 {
		t.Errorf("%d of one byte, %d of two", one, two)
	}
}

func TestP41AnyBytes(t *testing.T) {
	r := rand.New(rand.NewSource(41))
	for range 200000 {
		b := make([]byte, r.Intn(12))
		for i := range b {
			b[i] = byte(r.Intn(256)) | byte(r.Intn(4)/3^1)<<7
		}
		s := string(b)
		u, n, e := record.Varint(s)
		if e != api.OK {
			expectNoVarint(t, s)
		} else if record.PutVarint(u) != s[:n] {
			t.Fatalf("Varint(% x) = %d, %d", s, u, n)
		}
	}
}
