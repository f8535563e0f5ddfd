package stmt

import (
	"slices"

	"bureau/api"
	"bureau/expr"
)

// column reads a column and its parts, each of which stands once at most.
func (r *reader) column() *api.ColDef {
	d := &api.ColDef{Name: r.Name(), Type: r.columnType()}
	var had []string
parts:
	for !slices.Contains(had, r.Now) {
		had = append(had, r.Now)
		switch r.Now {
		case "PRIMARY":
			r.Want("PRIMARY", "KEY")
			d.Primary = true
		case "UNIQUE":
			r.Step()
			d.Unique = true
		case "NOT":
			r.Want("NOT", "NULL")
			d.NotNull = true
		case "DEFAULT":
			r.Step()
			d.Default = r.constant()
		case "CHECK":
			r.Want("CHECK", "(")
			d.Check = r.expr()
			r.Want(")")
		case "COLLATE":
			d.Coll = r.rule()
		default:
			break parts
		}
	}
	return d
}

// columnType takes a type, if one is told.
func (r *reader) columnType() string {
	word := r.capitals()
	switch word {
	case "INT":
		word = "INTEGER"
	case "INTEGER", "TEXT", "BLOB":
	default:
		return ""
	}
	r.Step()
	return word
}

func (r *reader) rule() api.Coll {
	r.Want("COLLATE")
	word := r.capitals()
	for c := api.CollBinary; isColl(c); c++ {
		if ruleText(c) == word {
			r.Step()
			return c
		}
	}
	r.Fail()
	return 0
}

// constant takes a literal, or - and an integer.
func (r *reader) constant() []api.Expr {
	switch r.Token().Kind {
	case api.TokInt, api.TokText, api.TokBlob:
		return r.literal()
	}
	switch r.Now {
	case "NULL":
		return r.literal()
	case "-":
		r.Step()
		if r.Token().Kind == api.TokInt {
			return []api.Expr{{Op: api.OpNeg, Args: r.literal()}}
		}
	}
	r.Fail()
	return nil
}

// literal takes the token at hand alone, whatever stands behind it.
func (r *reader) literal() []api.Expr {
	e, at, params, no := expr.Take(r.Tokens[:r.At+1], r.At, r.params)
	return taken(r, e, at, params, no)
}

// key reads a column of an index.
func (r *reader) key() *api.IndexCol {
	k := &api.IndexCol{Name: r.Name(), Own: r.Now == "COLLATE"}
	if k.Own {
		k.Coll = r.rule()
	}
	if !r.Takes("ASC") {
		k.Desc = r.Takes("DESC")
	}
	return k
}
