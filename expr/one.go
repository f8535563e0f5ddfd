package expr

import (
	"strconv"

	"bureau/api"
	"bureau/value"
)

// one reads what no operator parts.
func (r *reader) one() *api.Expr {
	switch r.now {
	case "(":
		return r.brackets()
	case "EXISTS":
		return r.exists()
	case "CASE":
		return r.cases()
	case "CAST":
		return r.cast()
	case "NULL":
		r.step()
		return node(api.OpLit)
	case "REPLACE":
		return r.call(r.text())
	}
	switch r.token().Kind {
	case api.TokInt, api.TokText, api.TokBlob:
		return r.literal()
	case api.TokParam:
		return r.param()
	}
	return r.named()
}

func (r *reader) brackets() *api.Expr {
	r.want("(")
	e := r.inBrackets()
	r.want(")")
	return e
}

func (r *reader) inBrackets() *api.Expr {
	if !r.atQuery() {
		return r.or()
	}
	e := node(api.OpScalar)
	e.Sub = []api.Select{*r.query()}
	return e
}

func (r *reader) exists() *api.Expr {
	r.want("EXISTS")
	e := node(api.OpExists)
	e.Sub = []api.Select{*r.ownQuery()}
	return e
}

func (r *reader) cases() *api.Expr {
	r.want("CASE")
	e := node(api.OpCase)
	if r.now != "WHEN" {
		e.N = caseBase
		e.Args = append(e.Args, *r.or())
	}
	r.want("WHEN")
	for more := true; more; more = r.takes("WHEN") {
		e.Args = append(e.Args, *r.or())
		r.want("THEN")
		e.Args = append(e.Args, *r.or())
	}
	if r.takes("ELSE") {
		e.N |= caseElse
		e.Args = append(e.Args, *r.or())
	}
	r.want("END")
	return e
}

func (r *reader) cast() *api.Expr {
	r.want("CAST")
	r.want("(")
	e := node(api.OpCast, *r.or())
	r.want("AS")
	e.Name = r.word(isType)
	r.want(")")
	return e
}

func (r *reader) literal() *api.Expr {
	t := r.token()
	e := node(api.OpLit)
	switch t.Kind {
	case api.TokInt:
		e.V = value.Int(r.number(t.Text))
	case api.TokText:
		e.V = api.Value{Kind: api.KindText, Text: t.Text}
	case api.TokBlob:
		e.V = api.Value{Kind: api.KindBlob, Text: t.Text}
	}
	if !value.May(e.V) {
		r.fail()
	}
	r.step()
	return e
}

// number is that of digits alone, no greater than an int64.
func (r *reader) number(digits string) int64 {
	n, e := strconv.ParseInt(digits, 10, 64)
	if e != nil || digits[0] == '-' || digits[0] == '+' {
		r.fail()
	}
	return n
}

func (r *reader) param() *api.Expr {
	e := node(api.OpParam)
	e.N = r.params + 1
	if digits := r.token().Text; digits != "" {
		e.N = int(r.number(digits))
	}
	if !isParam(e.N) {
		r.fail()
	}
	r.params = max(r.params, e.N)
	r.step()
	return e
}

// named reads a column or a call.
func (r *reader) named() *api.Expr {
	name := r.name()
	if r.now == "(" {
		return r.call(name)
	}
	e := node(api.OpCol)
	e.Name = name
	if r.takes(".") {
		e.Table, e.Name = name, r.name()
	}
	return e
}

func (r *reader) call(name string) *api.Expr {
	e := node(api.OpCall)
	e.Name = name
	r.want("(")
	switch r.now {
	case ")":
	case "*":
		r.step()
		e.N = callStar
	case "DISTINCT":
		r.step()
		e.N = callDistinct
		e.Args = []api.Expr{*r.or()}
	default:
		e.Args = list(r, r.or)
	}
	r.want(")")
	return e
}
