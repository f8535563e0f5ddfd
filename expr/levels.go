package expr

import (
	"bureau/api"
	"bureau/cursor"
)

func node(op api.Op, args ...api.Expr) *api.Expr {
	return &api.Expr{Op: op, Args: args}
}

// chained reads parts of the level below with a level's operators between them, from the left.
func (r *reader) chained(below func() *api.Expr, operator func(mark string) api.Op) *api.Expr {
	e := below()
	for {
		op := operator(r.Now)
		if op == 0 {
			return e
		}
		r.Step()
		e = node(op, *e, *below())
	}
}

func (r *reader) or() *api.Expr    { return r.chained(r.and, orOp) }
func (r *reader) and() *api.Expr   { return r.chained(r.not, andOp) }
func (r *reader) less() *api.Expr  { return r.chained(r.sum, lessOp) }
func (r *reader) sum() *api.Expr   { return r.chained(r.times, sumOp) }
func (r *reader) times() *api.Expr { return r.chained(r.chain, timesOp) }
func (r *reader) chain() *api.Expr { return r.chained(r.sign, chainOp) }

func orOp(mark string) api.Op {
	switch mark {
	case "OR":
		return api.OpOr
	}
	return 0
}

func andOp(mark string) api.Op {
	switch mark {
	case "AND":
		return api.OpAnd
	}
	return 0
}

func lessOp(mark string) api.Op {
	switch mark {
	case "<":
		return api.OpLt
	case "<=":
		return api.OpLe
	case ">":
		return api.OpGt
	case ">=":
		return api.OpGe
	}
	return 0
}

func sumOp(mark string) api.Op {
	switch mark {
	case "+":
		return api.OpAdd
	case "-":
		return api.OpSub
	}
	return 0
}

func timesOp(mark string) api.Op {
	switch mark {
	case "*":
		return api.OpMul
	case "/":
		return api.OpDiv
	case "%":
		return api.OpRem
	}
	return 0
}

func chainOp(mark string) api.Op {
	switch mark {
	case "||":
		return api.OpConcat
	}
	return 0
}

func (r *reader) not() *api.Expr {
	if !r.Takes("NOT") {
		return r.same()
	}
	if r.Now == "EXISTS" {
		e := r.exists()
		e.Not = true
		return e
	}
	return node(api.OpNot, *r.not())
}

func (r *reader) same() *api.Expr {
	e := r.less()
	for {
		switch r.Now {
		case "=", "==":
			r.Step()
			e = node(api.OpEq, *e, *r.less())
		case "<>", "!=":
			r.Step()
			e = node(api.OpNe, *e, *r.less())
		case "IS":
			r.Step()
			e = r.is(e)
		case "NOT":
			r.Step()
			e = r.worded(e)
			e.Not = true
		case "LIKE", "GLOB", "BETWEEN", "IN":
			e = r.worded(e)
		default:
			return e
		}
	}
}

func (r *reader) is(left *api.Expr) *api.Expr {
	op := api.OpIs
	if r.Takes("NOT") {
		op = api.OpIsNot
	}
	return node(op, *left, *r.less())
}

// worded reads an operator ahead of which NOT may stand.
func (r *reader) worded(left *api.Expr) *api.Expr {
	switch r.Now {
	case "LIKE":
		r.Step()
		return node(api.OpLike, *left, *r.less())
	case "GLOB":
		r.Step()
		return node(api.OpGlob, *left, *r.less())
	case "BETWEEN":
		r.Step()
		low := r.less()
		r.Want("AND")
		return node(api.OpBetween, *left, *low, *r.less())
	case "IN":
		r.Step()
		return r.in(left)
	}
	r.Fail()
	return nil
}

func (r *reader) in(left *api.Expr) *api.Expr {
	e := node(api.OpIn, *left)
	r.Want("(")
	switch {
	case r.atQuery():
		e.Sub = []api.Select{*r.query()}
	case r.Now != ")":
		e.Args = append(e.Args, cursor.List(&r.Cursor, r.or)...)
	}
	r.Want(")")
	return e
}

func (r *reader) sign() *api.Expr {
	switch r.Now {
	case "-":
		r.Step()
		return node(api.OpNeg, *r.sign())
	case "+":
		r.Step()
		return node(api.OpPlus, *r.sign())
	}
	return r.ruled()
}

func (r *reader) ruled() *api.Expr {
	e := r.one()
	for r.Takes("COLLATE") {
		e = node(api.OpCollate, *e)
		e.Name = r.Word(isRule)
	}
	return e
}
