package expr

import (
	"strconv"

	"bureau/api"
	"bureau/cursor"
	"bureau/value"
)

// one reads what no operator parts.
func (r *reader) one() *api.Expr {
	switch r.Now {
	case "(":
		return r.brackets()
	case "EXISTS":
		return r.exists()
	case "CASE":
		return r.cases()
	case "CAST":
		return r.cast()
	case "NULL":
		r.Step()
		return node(api.OpLit)
	case "REPLACE":
		return r.call(r.Text())
	}
	switch r.Token().Kind {
	case api.TokInt, api.TokText, api.TokBlob:
		return r.literal()
	case api.TokParam:
		return r.param()
	}
	return r.named()
}

func (r *reader) brackets() *api.Expr {
	r.Want("(")
	e := r.inBrackets()
	r.Want(")")
	return e
}

func (r *reader) inBrackets() *api.Expr {
	if !r.atQuery() {
		return r.or()
	}
	e := node(api.OpScalar)
	e.Sub = []api.Select{*r.query()}
	return e
}

func (r *reader) exists() *api.Expr {
	r.Want("EXISTS")
	e := node(api.OpExists)
	e.Sub = []api.Select{*r.ownQuery()}
	return e
}

func (r *reader) cases() *api.Expr {
	r.Want("CASE")
	e := node(api.OpCase)
	if r.Now != "WHEN" {
		e.N = caseBase
		e.Args = append(e.Args, *r.or())
	}
	r.Want("WHEN")
	for more := true; more; more = r.Takes("WHEN") {
		e.Args = append(e.Args, *r.or())
		r.Want("THEN")
		e.Args = append(e.Args, *r.or())
	}
	if r.Takes("ELSE") {
		e.N |= caseElse
		e.Args = append(e.Args, *r.or())
	}
	r.Want("END")
	return e
}

func (r *reader) cast() *api.Expr {
	r.Want("CAST", "(")
	e := node(api.OpCast, *r.or())
	r.Want("AS")
	e.Name = r.Word(isType)
	r.Want(")")
	return e
}

func (r *reader) literal() *api.Expr {
	t := r.Token()
	e := node(api.OpLit)
	switch t.Kind {
	case api.TokInt:
		e.V = value.Int(r.number(t.Text))
	case api.TokText:
		e.V = api.Value{Kind: api.KindText, Text: t.Text}
	case api.TokBlob:
		e.V = api.Value{Kind: api.KindBlob, Text: t.Text}
	}
	if !value.May(e.V) {
		r.Fail()
	}
	r.Step()
	return e
}

// number is that of digits alone, no greater than an int64.
func (r *reader) number(digits string) int64 {
	n, e := strconv.ParseInt(digits, 10, 64)
	if e != nil || digits[0] == '-' || digits[0] == '+' {
		r.Fail()
	}
	return n
}

func (r *reader) param() *api.Expr {
	e := node(api.OpParam)
	e.N = r.params + 1
	if digits := r.Token().Text; digits != "" {
		e.N = int(r.number(digits))
	}
	if !isParam(e.N) {
		r.Fail()
	}
	r.params = max(r.params, e.N)
	r.Step()
	return e
}

// named reads a column or a call.
func (r *reader) named() *api.Expr {
	name := r.Name()
	if r.Now == "(" {
		return r.call(name)
	}
	e := node(api.OpCol)
	e.Name = name
	if r.Takes(".") {
		e.Table, e.Name = name, r.Name()
	}
	return e
}

func (r *reader) call(name string) *api.Expr {
	e := node(api.OpCall)
	e.Name = name
	r.Want("(")
	switch r.Now {
	case ")":
	case "*":
		r.Step()
		e.N = callStar
	case "DISTINCT":
		r.Step()
		e.N = callDistinct
		e.Args = []api.Expr{*r.or()}
	default:
		e.Args = cursor.List(&r.Cursor, r.or)
	}
	r.Want(")")
	return e
}
