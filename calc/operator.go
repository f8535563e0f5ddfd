package calc

import (
	"bureau/api"
	"bureau/value"
)

// Unary tells what an operator makes of one value.
func Unary(op api.Op, v api.Value) (api.Value, api.Errno) {
	do := ofOne(op)
	if do == nil {
		return api.Value{}, api.ErrOp
	}
	if !value.May(v) {
		return api.Value{}, api.ErrArg
	}
	return do(v), api.OK
}

// Binary tells what an operator makes of two values.
func Binary(op api.Op, a, b api.Value, c api.Coll) (api.Value, api.Errno) {
	do := ofTwo(op, c)
	if do == nil {
		return api.Value{}, api.ErrOp
	}
	if !value.May(a) || !value.May(b) {
		return api.Value{}, api.ErrArg
	}
	return do(a, b), api.OK
}

// In tells whether x is one of the list: the OpOr of all OpEq.
func In(x api.Value, list []api.Value, c api.Coll) api.Value {
	if !value.May(x) {
		return api.Value{}
	}
	eq, or := ofTwo(api.OpEq, c), ofTwo(api.OpOr, c)
	is := truth(false)
	for _, v := range list {
		if !value.May(v) {
			return api.Value{}
		}
		is = or(is, eq(x, v))
	}
	return is
}

// ofOne picks what an operator does with a value that may be; nil if there is no such operator.
func ofOne(op api.Op) func(v api.Value) api.Value {
	switch op {
	case api.OpNeg:
		minus := onNumbers(difference)
		return func(v api.Value) api.Value { return minus(value.Int(0), v) }
	case api.OpPlus:
		return func(v api.Value) api.Value { return v }
	case api.OpNot:
		return not
	}
	return nil
}

// ofTwo picks what an operator does with two values that may be; nil if there is no such operator.
func ofTwo(op api.Op, c api.Coll) func(a, b api.Value) api.Value {
	switch op {
	case api.OpAdd:
		return onNumbers(sum)
	case api.OpSub:
		return onNumbers(difference)
	case api.OpMul:
		return onNumbers(product)
	case api.OpDiv:
		return onNumbers(quotient)
	case api.OpRem:
		return onNumbers(remainder)
	case api.OpConcat:
		return unlessNull(func(a, b api.Value) api.Value { return text(Show(a).Text + Show(b).Text) })
	case api.OpIs, api.OpIsNot:
		return standing(op, c)
	case api.OpEq, api.OpNe, api.OpLt, api.OpLe, api.OpGt, api.OpGe:
		return unlessNull(standing(op, c))
	case api.OpAnd:
		return settledBy(false)
	case api.OpOr:
		return settledBy(true)
	}
	return nil
}

// onNumbers does with two values what f does with them as numbers; f says whether there is a result.
func onNumbers(f func(x, y int64) (int64, bool)) func(a, b api.Value) api.Value {
	result := unlessNull(func(x, y api.Value) api.Value {
		n, ok := f(x.Int, y.Int)
		if !ok {
			return api.Value{}
		}
		return value.Int(n)
	})
	return func(a, b api.Value) api.Value { return result(Num(a), Num(b)) }
}

// unlessNull does what f does where neither value is NULL.
func unlessNull(f func(a, b api.Value) api.Value) func(a, b api.Value) api.Value {
	return func(a, b api.Value) api.Value {
		if a.Kind == api.KindNull || b.Kind == api.KindNull {
			return api.Value{}
		}
		return f(a, b)
	}
}

// standing tells whether two values stand in the order under a collation as the operator asks.
func standing(op api.Op, c api.Coll) func(a, b api.Value) api.Value {
	fits := asked(op)
	return func(a, b api.Value) api.Value { return truth(fits(value.Cmp(a, b, c))) }
}

// asked picks which answers of Cmp a comparison takes.
func asked(op api.Op) func(n int) bool {
	switch op {
	case api.OpNe, api.OpIsNot:
		return func(n int) bool { return n != 0 }
	case api.OpLt:
		return func(n int) bool { return n < 0 }
	case api.OpLe:
		return func(n int) bool { return n <= 0 }
	case api.OpGt:
		return func(n int) bool { return n > 0 }
	case api.OpGe:
		return func(n int) bool { return n >= 0 }
	}
	return func(n int) bool { return n == 0 }
}

// not turns a truth value round; what is unknown stays so.
func not(v api.Value) api.Value {
	is, known := Truth(v)
	if !known {
		return api.Value{}
	}
	return truth(!is)
}

// settledBy is OpAnd and OpOr: a side that is what settles it is enough, though the other one be unknown.
func settledBy(what bool) func(a, b api.Value) api.Value {
	return func(a, b api.Value) api.Value {
		x, xKnown := Truth(a)
		y, yKnown := Truth(b)
		switch {
		case xKnown && x == what, yKnown && y == what:
			return truth(what)
		case !xKnown || !yKnown:
			return api.Value{}
		}
		return truth(!what)
	}
}
