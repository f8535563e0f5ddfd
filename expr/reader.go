package expr

import (
	"bureau/api"
	"bureau/cursor"
)

// reader goes along the tokens. Trees are handed about by pointers, so that deep ones need little room on the way.
type reader struct {
	cursor.Cursor
	params int // the greatest number of a parameter so far
}

// alias takes a new name, if one is told.
func (r *reader) alias() string {
	if r.Takes("AS") || r.AtName() {
		return r.Name()
	}
	return ""
}

// maybe takes an expression, if the word ahead of it stands there.
func (r *reader) maybe(word string) []api.Expr {
	if !r.Takes(word) {
		return nil
	}
	return []api.Expr{*r.or()}
}
