package expr

import (
	"bureau/api"
	"bureau/token"
)

// reader stands at a place among tokens. Trees are handed about by pointers, so that deep ones need little room on the way.
type reader struct {
	tokens []api.Token
	at     int
	now    string // the mark of the token at hand
	params int    // the greatest number of a parameter so far
}

// misplaced is what is given up where the token at hand can't stand.
type misplaced struct{}

func (r *reader) fail() {
	panic(misplaced{})
}

func (r *reader) goTo(at int) {
	r.at = at
	r.now = r.mark(at)
}

func (r *reader) step() {
	r.goTo(r.at + 1)
}

// mark is a sign as it stands, a keyword in capital letters, and empty of all else.
func (r *reader) mark(at int) string {
	if at >= len(r.tokens) {
		return ""
	}
	t := r.tokens[at]
	k, is := token.Keyword(t.Text)
	switch {
	case t.Kind == api.TokWord:
		return k
	case t.Kind == api.TokSign && !is:
		return t.Text
	}
	return ""
}

// takes goes behind the token at hand if it has that mark.
func (r *reader) takes(mark string) bool {
	if r.now != mark {
		return false
	}
	r.step()
	return true
}

func (r *reader) want(mark string) {
	if !r.takes(mark) {
		r.fail()
	}
}

// token is the token at hand, one of no kind behind the end.
func (r *reader) token() api.Token {
	if r.at >= len(r.tokens) {
		return api.Token{}
	}
	return r.tokens[r.at]
}

func (r *reader) atName() bool {
	t := r.token()
	return t.Kind == api.TokWord && token.Name(t.Text)
}

func (r *reader) name() string {
	if !r.atName() {
		r.fail()
	}
	return r.text()
}

// word takes a word that a list of words has.
func (r *reader) word(has func(string) bool) string {
	if r.token().Kind != api.TokWord || !has(r.token().Text) {
		r.fail()
	}
	return r.text()
}

// text goes behind the token at hand.
func (r *reader) text() string {
	s := r.token().Text
	r.step()
	return s
}

// alias takes a new name, if one is told.
func (r *reader) alias() string {
	if r.takes("AS") || r.atName() {
		return r.name()
	}
	return ""
}

// list takes one or more, with commas between them.
func list[T any](r *reader, read func() *T) []T {
	l := []T{*read()}
	for r.takes(",") {
		l = append(l, *read())
	}
	return l
}

// maybe takes an expression, if the word ahead of it stands there.
func (r *reader) maybe(word string) []api.Expr {
	if !r.takes(word) {
		return nil
	}
	return []api.Expr{*r.or()}
}
