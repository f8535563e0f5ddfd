package record_test

import (
	"math"
	"math/big"
	"math/rand"
	"slices"
	"strings"
	"testing"

	"bureau/api"
	"bureau/record"
)

var null = api.Value{}

func text(s string) api.Value              { return api.Value{Kind: api.KindText, Text: s} }
func blob(s string) api.Value              { return api.Value{Kind: api.KindBlob, Text: s} }
func num(n int64) api.Value                { return api.Value{Kind: api.KindInt, Int: n} }
func row(vs ...api.Value) []api.Value      { return vs }
func long(s string, n int) string          { return strings.Repeat(s, n) }
func rowOf(v api.Value, n int) []api.Value { return slices.Repeat(row(v), n) }

// forbidden are values that may not be.
func forbidden() []api.Value {
	return []api.Value{
		{Int: 1}, {Int: math.MinInt64}, {Text: "a"}, {Text: "\x00"}, {Int: 1, Text: "a"},
		{Kind: api.KindInt, Text: "1"}, {Kind: api.KindInt, Int: 1, Text: " "},
		{Kind: api.KindText, Int: 1}, {Kind: api.KindText, Int: -1, Text: "a"}, {Kind: api.KindText, Text: long("a", api.MaxValue+1)}, {Kind: api.KindText, Text: long("a", 5000)},
		{Kind: api.KindBlob, Int: 1}, {Kind: api.KindBlob, Int: -1, Text: "a"}, {Kind: api.KindBlob, Text: long("a", api.MaxValue+1)}, {Kind: api.KindBlob, Text: long("a", 5000)},
		{Kind: -1}, {Kind: 4}, {Kind: 4, Text: "a"}, {Kind: math.MinInt}, {Kind: math.MaxInt, Int: 1},
	}
}

// bounds are the integers on both sides of each bound between so many bytes and one more, with how many they need; 0 and 1 are apart.
func bounds() map[int64]int {
	all := map[int64]int{-1: 1, 2: 1, -2: 1, 3: 1}
	for n := 1; n <= 8; n++ {
		most := int64(math.MaxInt64) >> (64 - 8*n)
		all[most], all[most-1], all[-most-1], all[-most] = n, n, n, n
		if n < 8 {
			all[most+1], all[most+2], all[-most-2], all[-most-3] = n+1, n+1, n+1, n+1
		}
	}
	return all
}

// twosComplement is an integer in n bytes, by integers without bounds.
func twosComplement(i int64, n int) string {
	u := big.NewInt(i)
	if i < 0 {
		u.Add(u, new(big.Int).Lsh(big.NewInt(1), uint(8*n)))
	}
	return string(u.FillBytes(make([]byte, n)))
}

// typeAndBytes are a value's in a record, by the chapter's table.
func typeAndBytes(v api.Value) (uint64, string) {
	switch v.Kind {
	case api.KindText:
		return uint64(13 + 2*len(v.Text)), v.Text
	case api.KindBlob:
		return uint64(12 + 2*len(v.Text)), v.Text
	case api.KindNull:
		return 0, ""
	}
	if v.Int == 0 || v.Int == 1 {
		return uint64(9 + v.Int), ""
	}
	for n := 1; n < 8; n++ {
		if most := int64(1)<<(8*n-1) - 1; -most-1 <= v.Int && v.Int <= most {
			return uint64(n), twosComplement(v.Int, n)
		}
	}
	return 8, twosComplement(v.Int, 8)
}

// laid is a row as bytes, whether its record may be or not.
func laid(vs []api.Value) string {
	s := record.PutVarint(uint64(len(vs)))
	for _, v := range vs {
		t, _ := typeAndBytes(v)
		s += record.PutVarint(t)
	}
	for _, v := range vs {
		_, bytes := typeAndBytes(v)
		s += bytes
	}
	return s
}

// expectRecord holds a row and its record against each other.
func expectRecord(t *testing.T, vs []api.Value, want string) {
	t.Helper()
	if s, e := record.Encode(vs); s != want || e != api.OK {
		t.Errorf("Encode(%v) = % x, %v, not % x", vs, s, e, want)
	}
	if got, e := record.Decode(want); !slices.Equal(got, vs) || e != api.OK {
		t.Errorf("Decode(% x) = %v, %v, not %v", want, got, e, vs)
	}
}

func expectRefused(t *testing.T, vs []api.Value, want api.Errno) {
	t.Helper()
	if s, e := record.Encode(vs); s != "" || e != want {
		t.Errorf("Encode(%.200v) = % x, %v, not %v", vs, s, e, want)
	}
}

func expectBad(t *testing.T, s string) {
	t.Helper()
	if got, e := record.Decode(s); len(got) != 0 || e != api.ErrBad {
		t.Errorf("Decode(% .60x) = %v, %v, not ErrBad", s, got, e)
	}
}

func TestP42Examples(t *testing.T) {
	expectRecord(t, row(null, num(1), num(-2), num(300), text("ab")), "\x05\x00\x0a\x01\x02\x11\xfe\x01\x2cab")
	expectRecord(t, nil, "\x00")
	expectRecord(t, row(), "\x00")
	expectBad(t, "\x01\x01\x00")
	expectBad(t, "")
}

func TestP42EachKind(t *testing.T) {
	expectRecord(t, row(null), "\x01\x00")
	expectRecord(t, row(num(0)), "\x01\x09")
	expectRecord(t, row(num(1)), "\x01\x0a")
	expectRecord(t, row(num(2)), "\x01\x01\x02")
	expectRecord(t, row(num(-1)), "\x01\x01\xff")
	expectRecord(t, row(blob("")), "\x01\x0c")
	expectRecord(t, row(text("")), "\x01\x0d")
	expectRecord(t, row(blob("\x00")), "\x01\x0e\x00")
	expectRecord(t, row(text("\x00")), "\x01\x0f\x00")
	expectRecord(t, row(text("0"), blob("1"), text("\xff\x80")), "\x03\x0f\x0e\x1101\xff\x80")
	expectRecord(t, row(num(0), num(1), null, num(1), num(0)), "\x05\x09\x0a\x00\x0a\x09")
	expectRecord(t, row(num(-128), num(127), num(-129), num(128)), "\x04\x01\x01\x02\x02\x80\x7f\xff\x7f\x00\x80")
	expectRecord(t, row(num(math.MinInt64), num(math.MaxInt64)), "\x02\x08\x08\x80\x00\x00\x00\x00\x00\x00\x00\x7f\xff\xff\xff\xff\xff\xff\xff")
}

func TestP42Integers(t *testing.T) {
	for i, n := range bounds() {
		expectRecord(t, row(num(i)), "\x01"+string([]byte{byte(n)})+twosComplement(i, n))
		expectRecord(t, row(num(i), text("x"), num(i)), "\x03"+string([]byte{byte(n), 15, byte(n)})+twosComplement(i, n)+"x"+twosComplement(i, n))
	}
	for i := int64(-70000); i <= 70000; i++ {
		expectRecord(t, row(num(i)), laid(row(num(i))))
	}
}

func TestP42IntegersInMoreBytes(t *testing.T) {
	all := bounds()
	all[0], all[1] = 0, 0 // which need none
	for i, needed := range all {
		for n := needed + 1; n <= 8; n++ {
			expectBad(t, "\x01"+string([]byte{byte(n)})+twosComplement(i, n))
			expectBad(t, "\x02"+string([]byte{byte(n), 0})+twosComplement(i, n))
		}
	}
}

func TestP42EachLength(t *testing.T) {
	for n := range api.MaxValue + 1 {
		s := long("\xfea\x00'", n)[:n]
		expectRecord(t, row(text(s)), laid(row(text(s))))
		expectRecord(t, row(blob(s)), laid(row(blob(s))))
		expectRecord(t, row(num(7), blob(s), text(s), null), laid(row(num(7), blob(s), text(s), null)))
	}
	expectRecord(t, row(text(long("a", 57))), "\x01\x7f"+long("a", 57))
	expectRecord(t, row(blob(long("a", 58))), "\x01\x81\x00"+long("a", 58))
	expectRecord(t, row(text(long("a", 400))), "\x01\x86\x2d"+long("a", 400))
}

func TestP42Values(t *testing.T) {
	for _, v := range forbidden() {
		expectRefused(t, row(v), api.ErrArg)
		expectRefused(t, row(null, v), api.ErrArg)
		expectRefused(t, row(v, text("a"), num(5)), api.ErrArg)
		expectRefused(t, append(rowOf(null, api.MaxCols-1), v), api.ErrArg)
		expectRefused(t, append(rowOf(null, api.MaxCols), v), api.ErrArg)
		expectRefused(t, append(rowOf(text(long("a", 400)), 11), v), api.ErrArg)
		expectRefused(t, append(rowOf(text(long("a", 400)), 5000), v), api.ErrArg)
	}
}

func TestP42Columns(t *testing.T) {
	for _, v := range row(null, num(0), num(1), num(-300), text(""), blob("ab")) {
		for n := range api.MaxCols + 1 {
			expectRecord(t, rowOf(v, n), laid(rowOf(v, n)))
		}
		for _, n := range []int{api.MaxCols + 1, api.MaxCols + 2, 127, 128, 300, 4000} {
			expectRefused(t, rowOf(v, n), api.ErrLong)
			expectBad(t, laid(rowOf(v, n)))
		}
	}
}

// ofBytes is a row of n values whose record has that many bytes, from n texts of about the same length.
func ofBytes(t *testing.T, n, bytes int) []api.Value {
	t.Helper()
	vs := rowOf(text(""), n)
	for i := 0; len(laid(vs)) < bytes; i++ {
		vs[i%n].Text += "z"
	}
	if len(laid(vs)) != bytes {
		t.Fatalf("no %d bytes of %d texts", bytes, n)
	}
	return vs
}

func TestP42Bytes(t *testing.T) {
	for n := 11; n <= api.MaxCols; n++ {
		for bytes := api.MaxRecord - 3; bytes <= api.MaxRecord; bytes++ {
			vs := ofBytes(t, n, bytes)
			expectRecord(t, vs, laid(vs))
		}
		for _, bytes := range []int{api.MaxRecord + 1, api.MaxRecord + 2, api.MaxRecord + 300} {
			vs := ofBytes(t, n, bytes)
			expectRefused(t, vs, api.ErrLong)
			expectBad(t, laid(vs))
		}
	}
	whole := rowOf(blob(long("\xff", api.MaxValue)), api.MaxCols)
	expectRefused(t, whole, api.ErrLong)
	expectBad(t, laid(whole))
}

func TestP42TooLongValues(t *testing.T) {
	for _, n := range []int{api.MaxValue + 1, api.MaxValue + 2, 3000, 5000} {
		expectBad(t, laid(row(text(long("a", n)))))
		expectBad(t, laid(row(blob(long("a", n)))))
		expectBad(t, laid(row(num(3), text(long("a", n)), null)))
	}
}

// samples are rows of all kinds of values.
func samples() [][]api.Value {
	return [][]api.Value{
		nil, row(null), row(num(0)), row(num(1)), row(num(-2)), row(text("")), row(blob("")), row(text("a")), row(blob("a")),
		row(null, num(1), num(-2), num(300), text("ab")), row(num(math.MinInt64), num(math.MaxInt64)), row(text(long("q", 300)), blob(long("\x80", 200))),
		rowOf(num(70000), api.MaxCols), rowOf(null, api.MaxCols), rowOf(text("x"), 9),
	}
}

func TestP42EndsInTheMidst(t *testing.T) {
	for _, vs := range samples() {
		s := laid(vs)
		for n := range len(s) {
			expectBad(t, s[:n])
		}
	}
}

func TestP42FurtherBytes(t *testing.T) {
	for _, vs := range samples() {
		for _, behind := range []string{"\x00", "\x80", "\xff", "a", "\x00\x00", long("\x00", 500), laid(vs), long("\x01", 5000)} {
			expectBad(t, laid(vs)+behind)
		}
	}
}

func TestP42TypesThatAreNone(t *testing.T) {
	for _, bytes := range []string{"", "\x00", "\x01", "\x05", "\x7f\x7f", long("a", 11), long("\x02", 390)} {
		expectBad(t, "\x01\x0b"+bytes)
		expectBad(t, "\x02\x00\x0b"+bytes)
		expectBad(t, "\x02\x0b\x09"+bytes)
		for _, u := range []uint64{14 + 2*api.MaxValue, 15 + 2*api.MaxValue, 4000, 1 << 31, 1<<32 + 14, 1<<33 + 13, 1 << 56, 1 << 62, 1 << 63, 1<<63 + 14, math.MaxUint64 - 1, math.MaxUint64} {
			expectBad(t, "\x01"+record.PutVarint(u)+bytes)
			expectBad(t, "\x02\x09"+record.PutVarint(u)+bytes)
		}
	}
}

func TestP42NumbersOfValues(t *testing.T) {
	for _, u := range []uint64{17, 127, 128, 1 << 16, 1 << 31, 1 << 32, 1<<32 + 1, 1 << 40, 1 << 56, 1 << 63, 1<<63 + 1, math.MaxUint64} {
		for _, bytes := range []string{"", "\x00", "\x09", long("\x00", 17), long("\x00", 127), long("\x0a", 3000)} {
			expectBad(t, record.PutVarint(u)+bytes)
		}
	}
}

func TestP42LongerVarints(t *testing.T) {
	expectBad(t, "\x80\x00")
	expectBad(t, "\x80\x01\x09")
	expectBad(t, "\x80\x80\x01\x09")
	expectBad(t, "\x01\x80\x09")
	expectBad(t, "\x01\x80\x0fa")
	expectBad(t, "\x02\x00\x80\x00")
	for n := 2; n <= 9; n++ {
		expectBad(t, inBytes(1, n)+"\x00")
		expectBad(t, "\x01"+inBytes(9, n))
		expectBad(t, "\x01"+inBytes(15, n)+"a")
	}
}

// TestP42AllShort counts what is taken of all texts of at most three bytes (of those of three, that begin with up to 20).
func TestP42AllShort(t *testing.T) {
	taken := [4]int{}
	try := func(b ...byte) {
		s := string(b)
		vs, e := record.Decode(s)
		if e != api.OK {
			return
		}
		taken[len(b)]++
		if back, e := record.Encode(vs); back != s || e != api.OK {
			t.Errorf("Encode(%v) = % x, %v, not % x", vs, back, e, s)
		}
	}
	try()
	for a := range 256 {
		try(byte(a))
		for b := range 256 {
			try(byte(a), byte(b))
			for c := 0; a < 20 && c < 256; c++ {
				try(byte(a), byte(b), byte(c))
			}
		}
	}
	if want := [4]int{0, 1, 5, 254 + 256 + 256 + 5*5}; taken != want {
		t.Errorf("%v, not %v", taken, want)
	}
}

func TestP42AnyBytes(t *testing.T) {
	r := rand.New(rand.NewSource(42))
	good := 0
	for range 300000 {
		b := make([]byte, r.Intn(20))
		for i := range b {
			b[i] = byte(r.Intn(18))
			if i > 0 && r.Intn(8) == 0 {
				b[i] = byte(r.Intn(256))
			}
		}
		s := string(b)
		vs, e := record.Decode(s)
		if e != api.OK {
			expectBad(t, s)
			continue
		}
		good++
		if laid(vs) != s {
			t.Fatalf("Decode(% x) = %v", s, vs)
		}
	}
	if good < 100 {
		t.Errorf("just %d records", good)
	}
}

// TestP42Flipped changes one byte of a record at a time: what is still taken is the record of what is answered.
func TestP42Flipped(t *testing.T) {
	for _, vs := range samples() {
		s := laid(vs)
		for i := range s {
			for c := range 256 {
				b := []byte(s)
				b[i] = byte(c)
				if got, e := record.Decode(string(b)); e == api.OK && laid(got) != string(b) {
					t.Fatalf("Decode(% x) = %v", b, got)
				}
			}
		}
	}
}

func TestP42Memory(t *testing.T) {
	room := row(num(5), text("a"), null, num(9), num(9))
	kept := slices.Clone(room)
	s, _ := record.Encode(room[:3])
	a, _ := record.Decode(s)
	b, _ := record.Decode(s)
	if !slices.Equal(room, kept) || !slices.Equal(a, room[:3]) {
		t.Errorf("%v, %v", room, a)
	}
	a[0] = num(6)
	a = append(a[:1], num(7), num(8), num(9))
	if !slices.Equal(b, room[:3]) || len(a) != 4 {
		t.Errorf("%v, %v", a, b)
	}
}
