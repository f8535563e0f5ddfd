package calc_test

import (
	"bytes"
	"math"
	"math/big"
	"math/rand"
	"slices"
	"testing"

	"bureau/api"
	"bureau/calc"
	"bureau/value"
)

// unaries and binaries are the operators that Unary, Binary have.
func unaries() []api.Op { return []api.Op{api.OpNeg, api.OpPlus, api.OpNot} }
func binaries() []api.Op {
	return slices.Concat(arithmetic(), []api.Op{api.OpConcat}, comparisons(), []api.Op{api.OpIs, api.OpIsNot, api.OpAnd, api.OpOr})
}
func arithmetic() []api.Op {
	return []api.Op{api.OpAdd, api.OpSub, api.OpMul, api.OpDiv, api.OpRem}
}
func comparisons() []api.Op {
	return []api.Op{api.OpEq, api.OpNe, api.OpLt, api.OpLe, api.OpGt, api.OpGe}
}

// otherOps are the operators, and numbers that are none, that are not among those.
func otherOps(those []api.Op) []api.Op {
	list := []api.Op{0, -1, -4, 1000, math.MinInt, math.MaxInt}
	for op := api.OpLit; op < 130; op++ {
		if !slices.Contains(those, op) {
			list = append(list, op)
		}
	}
	return list
}

func unary(t *testing.T, op api.Op, v api.Value) api.Value {
	t.Helper()
	w, e := calc.Unary(op, v)
	if e != api.OK {
		t.Fatalf("operator %d of %#v: %v", op, v, e)
	}
	return w
}

func binary(t *testing.T, op api.Op, a, b api.Value, c api.Coll) api.Value {
	t.Helper()
	w, e := calc.Binary(op, a, b, c)
	if e != api.OK {
		t.Fatalf("operator %d of %#v and %#v: %v", op, a, b, e)
	}
	return w
}

func TestP32Neg(t *testing.T) {
	for _, v := range values() {
		want := null
		if n := calc.Num(v); n != null {
			want = inside(new(big.Int).Neg(big.NewInt(n.Int)))
		}
		if w := unary(t, api.OpNeg, v); w != want {
			t.Errorf("- %#v is %v", v, w)
		}
	}
	for _, c := range []struct{ v, w api.Value }{
		{num(least), null}, {num(least + 1), num(most)}, {num(most), num(-most)}, {num(0), num(0)}, {num(5), num(-5)}, {null, null},
		{text(" 5x"), num(-5)}, {text("x"), num(0)}, {blob("-5"), num(5)}, {text("-9223372036854775808"), null}, {text("9223372036854775808"), null},
	} {
		if w := unary(t, api.OpNeg, c.v); w != c.w {
			t.Error(c, w)
		}
	}
}

func TestP32Plus(t *testing.T) {
	for _, v := range values() {
		if w := unary(t, api.OpPlus, v); w != v {
			t.Errorf("+ %#v is %#v", v, w)
		}
	}
}

func TestP32Not(t *testing.T) {
	for _, c := range []struct{ v, w api.Value }{
		{null, null}, {num(0), num(1)}, {num(1), num(0)}, {num(-1), num(0)}, {num(2), num(0)}, {num(least), num(0)}, {num(1 << 32), num(0)},
		{text(""), num(1)}, {text("x"), num(1)}, {text("1x"), num(0)}, {text("9223372036854775808"), null}, {blob("0"), num(1)}, {blob("2"), num(0)},
	} {
		if w := unary(t, api.OpNot, c.v); w != c.w {
			t.Error(c, w)
		}
	}
}

func TestP32Errors(t *testing.T) {
	for _, op := range otherOps(unaries()) {
		for _, v := range append(forbidden(), null, num(1), text("a")) {
			if w, e := calc.Unary(op, v); w != null || e != api.ErrOp {
				t.Errorf("operator %d of %#v: %v %v", op, v, w, e)
			}
		}
	}
	for _, op := range unaries() {
		for _, v := range forbidden() {
			if w, e := calc.Unary(op, v); w != null || e != api.ErrArg {
				t.Errorf("operator %d of %#v: %v %v", op, v, w, e)
			}
		}
	}
}

// unbounded is what an arithmetic operator makes of two integers, by numbers without bounds.
func unbounded(op api.Op, x, y int64) api.Value {
	a, b, n := big.NewInt(x), big.NewInt(y), new(big.Int)
	switch op {
	case api.OpAdd:
		return inside(n.Add(a, b))
	case api.OpSub:
		return inside(n.Sub(a, b))
	case api.OpMul:
		return inside(n.Mul(a, b))
	}
	if y == 0 {
		return null
	}
	if op == api.OpDiv {
		return inside(n.Quo(a, b))
	}
	return inside(n.Rem(a, b))
}

func TestP33Arithmetic(t *testing.T) {
	for _, c := range []struct {
		op   api.Op
		x, y int64
		v    api.Value
	}{
		{api.OpAdd, most, 1, null}, {api.OpAdd, most - 1, 1, num(most)}, {api.OpAdd, least, -1, null}, {api.OpAdd, least + 1, -1, num(least)}, {api.OpAdd, least, most, num(-1)}, {api.OpAdd, least, least, null}, {api.OpAdd, most, 0, num(most)},
		{api.OpSub, least, 1, null}, {api.OpSub, least + 1, 1, num(least)}, {api.OpSub, most, -1, null}, {api.OpSub, most - 1, -1, num(most)}, {api.OpSub, 0, least, null}, {api.OpSub, -1, least, num(most)}, {api.OpSub, least, least, num(0)}, {api.OpSub, 2, 5, num(-3)},
		{api.OpMul, least, -1, null}, {api.OpMul, -1, least, null}, {api.OpMul, least, 1, num(least)}, {api.OpMul, least / 2, 2, num(least)}, {api.OpMul, -2, most/2 + 1, num(least)}, {api.OpMul, 2, most/2 + 1, null}, {api.OpMul, 3037000500, 3037000500, null}, {api.OpMul, 3037000499, 3037000499, num(9223372030926249001)}, {api.OpMul, 1 << 32, 1 << 32, null}, {api.OpMul, least, least, null}, {api.OpMul, least, 0, num(0)}, {api.OpMul, 0, -5, num(0)}, {api.OpMul, -3, -4, num(12)},
		{api.OpDiv, least, -1, null}, {api.OpDiv, least, 1, num(least)}, {api.OpDiv, least, 0, null}, {api.OpDiv, 0, 0, null}, {api.OpDiv, 7, 2, num(3)}, {api.OpDiv, -7, 2, num(-3)}, {api.OpDiv, 7, -2, num(-3)}, {api.OpDiv, -7, -2, num(3)}, {api.OpDiv, 1, 2, num(0)}, {api.OpDiv, most, -1, num(-most)}, {api.OpDiv, 0, least, num(0)}, {api.OpDiv, most, least, num(0)},
		{api.OpRem, least, -1, num(0)}, {api.OpRem, least, 0, null}, {api.OpRem, 0, 0, null}, {api.OpRem, 7, 2, num(1)}, {api.OpRem, -7, 2, num(-1)}, {api.OpRem, 7, -2, num(1)}, {api.OpRem, -7, -2, num(-1)}, {api.OpRem, most, least, num(most)}, {api.OpRem, least, most, num(-1)}, {api.OpRem, 5, -1, num(0)},
	} {
		if v := binary(t, c.op, num(c.x), num(c.y), 0); v != c.v {
			t.Error(c, v)
		}
	}
}

func TestP33ArithmeticAgainstUnbounded(t *testing.T) {
	r := rand.New(rand.NewSource(33))
	list := numbers()
	for range 300 {
		list = append(list, int64(r.Uint64()>>r.Intn(64)), -int64(r.Uint64()>>(1+r.Intn(63))))
	}
	for _, op := range arithmetic() {
		for _, x := range list {
			for _, y := range list {
				if v := binary(t, op, num(x), num(y), 0); v != unbounded(op, x, y) {
					t.Fatalf("operator %d of %d and %d: %v", op, x, y, v)
				}
			}
		}
	}
}

func TestP33ArithmeticOfAllKinds(t *testing.T) {
	list := values()
	for _, op := range arithmetic() {
		for _, a := range list {
			for _, b := range list {
				x, y, want := calc.Num(a), calc.Num(b), null
				if x != null && y != null {
					want = unbounded(op, x.Int, y.Int)
				}
				if v := binary(t, op, a, b, 0); v != want {
					t.Fatalf("operator %d of %#v and %#v: %v", op, a, b, v)
				}
			}
		}
	}
	if v := binary(t, api.OpMul, text("3x"), num(4), 0); v != num(12) {
		t.Error(v)
	}
}

func TestP33Concat(t *testing.T) {
	half := long("a", api.MaxValue/2)
	for _, c := range []struct{ a, b, v api.Value }{
		{num(1), blob("A"), text("1A")}, {blob("A"), num(-1), text("A-1")}, {text("a"), text("b"), text("ab")}, {blob("a"), blob("b"), text("ab")}, {num(1), num(2), text("12")}, {text(""), blob(""), text("")}, {text(" 1 "), text(" x"), text(" 1  x")}, {text("\xff\x00"), text("'"), text("\xff\x00'")},
		{num(least), num(most), text("-92233720368547758089223372036854775807")},
		{null, text("a"), null}, {text("a"), null, null}, {null, null, null}, {null, num(1), null},
		{text(half), text(half), text(half + half)}, {blob(half), text(half + "b"), null}, {text(half + half), text(""), text(half + half)}, {text(""), blob(half + half), text(half + half)}, {text(half + half), num(1), null}, {num(1), text(half + half), null}, {text(half + half), text(half + half), null}, {num(10), text(half + half[2:]), text("10" + half + half[2:])}, {num(10), text(half + half[1:]), null},
	} {
		if v := binary(t, api.OpConcat, c.a, c.b, 0); v != c.v {
			t.Errorf("%#v: %#v", c, v)
		}
	}
}

// lawful is the answer of a comparison by how its sides stand.
func lawful(op api.Op, n int) api.Value {
	is := map[api.Op]bool{
		api.OpEq: n == 0, api.OpNe: n != 0, api.OpLt: n < 0, api.OpLe: n <= 0, api.OpGt: n > 0, api.OpGe: n >= 0, api.OpIs: n == 0, api.OpIsNot: n != 0,
	}
	if is[op] {
		return num(1)
	}
	return num(0)
}

func TestP33Comparisons(t *testing.T) {
	for _, c := range []struct {
		a, b api.Value
		c    api.Coll
		n    int
	}{
		{num(1), num(2), 0, -1}, {num(2), num(2), 0, 0}, {num(least), num(most), 0, -1}, {num(most), num(least), 0, 1}, {num(1), text("0"), 0, -1}, {text("1"), num(1), 0, 1}, {text("z"), blob(""), 0, -1}, {text("a"), blob("a"), 0, -1}, {text("10"), text("9"), 0, -1}, {blob("b"), blob("a"), 0, 1},
		{text("a"), text("A"), api.CollBinary, 1}, {text("a"), text("A"), api.CollNoCase, 0}, {text("a"), text("A"), api.CollRTrim, 1}, {text("a "), text("a"), api.CollBinary, 1}, {text("a "), text("a"), api.CollNoCase, 1}, {text("a "), text("a"), api.CollRTrim, 0}, {text("a"), text("a  "), api.CollRTrim, 0},
		{text("a"), text("A"), 3, 1}, {text("a "), text("a"), -1, 1}, {text("a"), text("A"), math.MaxInt, 1}, {blob("a"), blob("A"), api.CollNoCase, 1}, {blob("a "), blob("a"), api.CollRTrim, 1},
	} {
		for _, op := range append(comparisons(), api.OpIs, api.OpIsNot) {
			if v := binary(t, op, c.a, c.b, c.c); v != lawful(op, c.n) {
				t.Errorf("operator %d of %#v: %v", op, c, v)
			}
			if v := binary(t, op, c.b, c.a, c.c); v != lawful(op, -c.n) {
				t.Errorf("operator %d of %#v, turned round: %v", op, c, v)
			}
		}
	}
}

func TestP33ComparisonsOfNull(t *testing.T) {
	for _, v := range values() {
		for _, op := range comparisons() {
			if l, r := binary(t, op, null, v, 0), binary(t, op, v, null, 0); l != null || r != null {
				t.Errorf("operator %d of NULL and %#v: %v %v", op, v, l, r)
			}
		}
		same := lawful(api.OpIs, value.Cmp(null, v, 0))
		if l, r := binary(t, api.OpIs, null, v, 0), binary(t, api.OpIs, v, null, 0); l != same || r != same {
			t.Errorf("NULL is %#v: %v %v", v, l, r)
		}
		if l := binary(t, api.OpIsNot, v, null, 0); l == same {
			t.Errorf("%#v is not NULL: %v", v, l)
		}
	}
	if v := binary(t, api.OpIs, null, null, 0); v != num(1) {
		t.Error(v)
	}
	if v := binary(t, api.OpIsNot, null, null, 0); v != num(0) {
		t.Error(v)
	}
}

func TestP33ComparisonsOfAllKinds(t *testing.T) {
	list := values()
	for _, c := range colls() {
		for _, a := range list {
			for _, b := range list {
				n := value.Cmp(a, b, c)
				for _, op := range []api.Op{api.OpIs, api.OpIsNot, api.OpLt, api.OpEq} {
					want := lawful(op, n)
					if (a == null || b == null) && op != api.OpIs && op != api.OpIsNot {
						want = null
					}
					if v := binary(t, op, a, b, c); v != want {
						t.Fatalf("operator %d of %#v and %#v under %d: %v", op, a, b, c, v)
					}
				}
			}
		}
	}
}

func TestP33Logic(t *testing.T) {
	yes, no := num(1), num(0)
	for _, c := range []struct{ a, b, and, or api.Value }{
		{yes, yes, yes, yes}, {yes, no, no, yes}, {no, no, no, no}, {null, no, no, null}, {null, yes, null, yes}, {null, null, null, null},
		{num(-3), num(2), yes, yes}, {text("x"), num(5), no, yes}, {text("1x"), blob("2"), yes, yes}, {text(""), blob(""), no, no},
		{text("9223372036854775808"), no, no, null}, {text("9223372036854775808"), num(9), null, yes}, {text("-9223372036854775809"), null, null, null}, {num(least), num(1 << 32), yes, yes},
	} {
		if v, w := binary(t, api.OpAnd, c.a, c.b, 0), binary(t, api.OpAnd, c.b, c.a, 0); v != c.and || w != c.and {
			t.Errorf("%#v and: %v %v", c, v, w)
		}
		if v, w := binary(t, api.OpOr, c.a, c.b, 0), binary(t, api.OpOr, c.b, c.a, 0); v != c.or || w != c.or {
			t.Errorf("%#v or: %v %v", c, v, w)
		}
	}
}

func TestP33Errors(t *testing.T) {
	for _, op := range otherOps(binaries()) {
		for _, v := range append(forbidden(), null, num(1)) {
			if w, e := calc.Binary(op, v, null, 0); w != null || e != api.ErrOp {
				t.Errorf("operator %d of %#v: %v %v", op, v, w, e)
			}
		}
	}
	for _, op := range binaries() {
		for _, v := range forbidden() {
			for _, other := range []api.Value{null, num(0), num(1), text("a"), v} {
				if w, e := calc.Binary(op, v, other, 0); w != null || e != api.ErrArg {
					t.Errorf("operator %d of %#v and %#v: %v %v", op, v, other, w, e)
				}
				if w, e := calc.Binary(op, other, v, 9); w != null || e != api.ErrArg {
					t.Errorf("operator %d of %#v and %#v: %v %v", op, other, v, w, e)
				}
			}
		}
	}
}

func TestP34In(t *testing.T) {
	yes, no := num(1), num(0)
	many := make([]api.Value, 5000)
	for i := range many {
		many[i] = num(int64(i))
	}
	for _, c := range []struct {
		x    api.Value
		list []api.Value
		c    api.Coll
		v    api.Value
	}{
		{num(1), nil, 0, no}, {num(1), []api.Value{}, 0, no}, {null, nil, 0, no}, {null, []api.Value{}, 0, no},
		{null, []api.Value{num(1)}, 0, null}, {null, []api.Value{null}, 0, null}, {null, []api.Value{num(1), null}, 0, null},
		{num(1), []api.Value{num(2), null}, 0, null}, {num(1), []api.Value{null, num(2)}, 0, null}, {num(1), []api.Value{num(1), null}, 0, yes}, {num(1), []api.Value{null, num(1)}, 0, yes}, {num(1), []api.Value{null}, 0, null},
		{num(1), []api.Value{num(2), num(3)}, 0, no}, {num(1), []api.Value{text("1"), blob("1")}, 0, no}, {text("1"), []api.Value{num(1)}, 0, no}, {num(0), []api.Value{num(0)}, 0, yes}, {num(0), []api.Value{text("")}, 0, no},
		{text("a"), []api.Value{text("A")}, api.CollBinary, no}, {text("a"), []api.Value{text("b"), text("A")}, api.CollNoCase, yes}, {text("a "), []api.Value{text("a")}, api.CollRTrim, yes}, {text("a "), []api.Value{text("a")}, 7, no}, {text("a"), []api.Value{text("A")}, -1, no}, {blob("a"), []api.Value{blob("A")}, api.CollNoCase, no},
		{num(4999), many, 0, yes}, {num(5000), many, 0, no}, {num(5000), append(slices.Clone(many), null), 0, null}, {num(0), append(slices.Clone(many), null), 0, yes},
	} {
		if v := calc.In(c.x, c.list, c.c); v != c.v {
			t.Errorf("%#v in %d values: %v", c.x, len(c.list), v)
		}
	}
}

func TestP34InOfWhatMayNotBe(t *testing.T) {
	for _, v := range forbidden() {
		for _, list := range [][]api.Value{nil, {}, {num(1)}, {null}, {v}} {
			if w := calc.In(v, list, 0); w != null {
				t.Errorf("%#v in %#v: %v", v, list, w)
			}
		}
		for _, list := range [][]api.Value{{v}, {num(1), v}, {v, num(1)}, {num(1), num(1), v, num(2)}, {num(2), v, null}} {
			if w := calc.In(num(1), list, 0); w != null {
				t.Errorf("1 in %#v: %v", list, w)
			}
		}
	}
}

func TestP34InLeavesTheListAlone(t *testing.T) {
	room := []api.Value{num(1), text("a"), null, num(9), num(9)}
	was := slices.Clone(room)
	calc.In(num(9), room[:3], 0)
	if !slices.Equal(room, was) {
		t.Error(room)
	}
}

func TestP37Laws(t *testing.T) {
	list := values()
	for _, a := range list {
		is, known := calc.Truth(a)
		want := null
		if known {
			want = lawful(api.OpNe, map[bool]int{true: 1}[is])
		}
		if v := unary(t, api.OpNot, unary(t, api.OpNot, a)); v != want {
			t.Errorf("not twice of %#v: %v", a, v)
		}
		for _, b := range list {
			lawsOfLogic(t, a, b)
			lawsOfNumbers(t, a, b)
			for _, c := range []api.Coll{api.CollBinary, api.CollNoCase, api.CollRTrim, 3} {
				lawsOfComparisons(t, a, b, c)
			}
		}
	}
}

func lawsOfLogic(t *testing.T, a, b api.Value) {
	t.Helper()
	not := func(v api.Value) api.Value { return unary(t, api.OpNot, v) }
	and, or := binary(t, api.OpAnd, a, b, 0), binary(t, api.OpOr, a, b, 0)
	if and != binary(t, api.OpAnd, b, a, 0) || or != binary(t, api.OpOr, b, a, 0) {
		t.Errorf("%#v and %#v hang on order", a, b)
	}
	if not(and) != binary(t, api.OpOr, not(a), not(b), 0) || not(or) != binary(t, api.OpAnd, not(a), not(b), 0) {
		t.Errorf("not of %#v and %#v", a, b)
	}
}

func lawsOfComparisons(t *testing.T, a, b api.Value, c api.Coll) {
	t.Helper()
	for _, ops := range [][2]api.Op{{api.OpNe, api.OpEq}, {api.OpGe, api.OpLt}, {api.OpGt, api.OpLe}, {api.OpIsNot, api.OpIs}} {
		if v, w := binary(t, ops[0], a, b, c), unary(t, api.OpNot, binary(t, ops[1], a, b, c)); v != w {
			t.Errorf("operator %d of %#v and %#v: %v %v", ops[0], a, b, v, w)
		}
	}
}

func lawsOfNumbers(t *testing.T, a, b api.Value) {
	t.Helper()
	n := calc.Num(a)
	if v := binary(t, api.OpAdd, a, b, 0); v != null {
		if w := binary(t, api.OpSub, v, b, 0); w != n {
			t.Errorf("%#v + %#v - %#v is %v", a, b, b, w)
		}
	}
	if v := binary(t, api.OpDiv, a, b, 0); v != null {
		whole := binary(t, api.OpMul, v, b, 0)
		if w := binary(t, api.OpAdd, whole, binary(t, api.OpRem, a, b, 0), 0); w != n {
			t.Errorf("%#v / %#v * %#v and what is left is %v", a, b, b, w)
		}
	}
}

func TestP37InIsTheOrOfAllEq(t *testing.T) {
	r := rand.New(rand.NewSource(37))
	some := []api.Value{null, num(0), num(1), num(2), text("1"), text("a"), text("A"), text("a "), blob("a"), text("")}
	for range 5000 {
		x, c := some[r.Intn(len(some))], colls()[r.Intn(len(colls()))]
		list, want := []api.Value{}, num(0)
		for range r.Intn(5) {
			v := some[r.Intn(len(some))]
			list = append(list, v)
			want = binary(t, api.OpOr, want, binary(t, api.OpEq, x, v, c), c)
		}
		if v := calc.In(x, list, c); v != want {
			t.Fatalf("%#v in %#v under %d: %v", x, list, c, v)
		}
	}
}

func TestP33AnyOperatorIsAnswered(t *testing.T) {
	r := rand.New(rand.NewSource(7))
	for range 20000 {
		v := func() api.Value {
			return api.Value{Kind: api.Kind(r.Intn(6) - 1), Int: int64(r.Intn(3) - 1), Text: string(bytes.Repeat([]byte{byte(r.Intn(256))}, r.Intn(3)))}
		}
		op, a, b, c := api.Op(r.Intn(120)-5), v(), v(), api.Coll(r.Intn(6)-2)
		w, e := calc.Binary(op, a, b, c)
		switch {
		case !slices.Contains(binaries(), op):
			if w != null || e != api.ErrOp {
				t.Fatal(op, a, b, w, e)
			}
		case value.Check(a, b) != api.OK:
			if w != null || e != api.ErrArg {
				t.Fatal(op, a, b, w, e)
			}
		case e != api.OK || !value.May(w):
			t.Fatal(op, a, b, w, e)
		}
	}
}
