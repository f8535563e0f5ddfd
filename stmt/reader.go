package stmt

import (
	"strings"

	"bureau/api"
	"bureau/cursor"
	"bureau/expr"
)

// reader goes along the tokens of a statement.
type reader struct {
	cursor.Cursor
	params int // the greatest number of a parameter so far
}

// taken goes behind what layer 16 took, or to where it can't go on.
func taken[T any](r *reader, tree T, at, params int, e api.Errno) []T {
	r.GoTo(at)
	if e != api.OK {
		r.Fail()
	}
	r.params = params
	return []T{tree}
}

func (r *reader) expr() []api.Expr {
	e, at, params, no := expr.Take(r.Tokens, r.At, r.params)
	return taken(r, e, at, params, no)
}

func (r *reader) sel() []api.Select {
	s, at, params, no := expr.TakeSelect(r.Tokens, r.At, r.params)
	return taken(r, s, at, params, no)
}

// query takes a select that has no WITH.
func (r *reader) query() []api.Select {
	if r.Now == "WITH" {
		r.Fail()
	}
	return r.sel()
}

// where takes an expression, if WHERE stands there.
func (r *reader) where() []api.Expr {
	if !r.Takes("WHERE") {
		return nil
	}
	return r.expr()
}

// oneOf takes one of some keywords, if one stands there.
func (r *reader) oneOf(l ...string) (string, bool) {
	for _, word := range l {
		if r.Takes(word) {
			return word, true
		}
	}
	return "", false
}

// ifs takes IF and what must stand behind it, if IF stands there.
func (r *reader) ifs(more ...string) bool {
	if !r.Takes("IF") {
		return false
	}
	r.Want(more...)
	return true
}

// capitals is the word at hand in capital letters: a token's letters are those of A to Z alone.
func (r *reader) capitals() string {
	if r.Token().Kind != api.TokWord {
		return ""
	}
	return strings.ToUpper(r.Token().Text)
}
