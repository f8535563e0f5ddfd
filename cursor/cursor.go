// Package cursor goes along the tokens of a text, for the layers that read expressions and statements (shared/doc/16-expr.md, shared/doc/17-stmt.md).
package cursor

import (
	"bureau/api"
	"bureau/token"
)

// Cursor stands at a place among tokens.
type Cursor struct {
	Tokens []api.Token
	At     int
	Now    string // the mark of the token at hand
}

// Misplaced is what is given up where the token at hand can't stand.
type Misplaced struct{}

// New stands at a place, or at that one of the two ends that is nearer.
func New(l []api.Token, at int) Cursor {
	c := Cursor{Tokens: l}
	c.GoTo(min(max(at, 0), len(l)))
	return c
}

// Fail gives up at the token at hand.
func (c *Cursor) Fail() {
	panic(Misplaced{})
}

// Refusal is the error of what was given up by Fail; all else goes on upwards.
func Refusal(given any) api.Errno {
	if _, is := given.(Misplaced); !is {
		panic(given)
	}
	return api.ErrSyntax
}

// GoTo goes to a place.
func (c *Cursor) GoTo(at int) {
	c.At = at
	c.Now = c.Mark(at)
}

// Step goes behind the token at hand.
func (c *Cursor) Step() {
	c.GoTo(c.At + 1)
}

// Mark is a sign as it stands, a keyword in capital letters, and empty of all else.
func (c *Cursor) Mark(at int) string {
	if at >= len(c.Tokens) {
		return ""
	}
	t := c.Tokens[at]
	k, is := token.Keyword(t.Text)
	switch {
	case t.Kind == api.TokWord:
		return k
	case t.Kind == api.TokSign && !is:
		return t.Text
	}
	return ""
}

// Takes goes behind the token at hand if it has that mark.
func (c *Cursor) Takes(mark string) bool {
	if c.Now != mark {
		return false
	}
	c.Step()
	return true
}

// Want goes behind tokens that must stand there, by their marks.
func (c *Cursor) Want(marks ...string) {
	for _, m := range marks {
		if !c.Takes(m) {
			c.Fail()
		}
	}
}

// Token is the token at hand, one of no kind behind the end.
func (c *Cursor) Token() api.Token {
	if c.At >= len(c.Tokens) {
		return api.Token{}
	}
	return c.Tokens[c.At]
}

// AtName says that the token at hand is a name.
func (c *Cursor) AtName() bool {
	t := c.Token()
	return t.Kind == api.TokWord && token.Name(t.Text)
}

// Name takes a name.
func (c *Cursor) Name() string {
	if !c.AtName() {
		c.Fail()
	}
	return c.Text()
}

// Word takes a word that a list of words has.
func (c *Cursor) Word(has func(string) bool) string {
	if c.Token().Kind != api.TokWord || !has(c.Token().Text) {
		c.Fail()
	}
	return c.Text()
}

// Text goes behind the token at hand.
func (c *Cursor) Text() string {
	s := c.Token().Text
	c.Step()
	return s
}

// Names takes names in brackets, if a bracket stands there.
func (c *Cursor) Names() []string {
	if c.Now != "(" {
		return nil
	}
	return InBrackets(c, func() *string {
		name := c.Name()
		return &name
	})
}

// List takes one or more, with commas between them.
func List[T any](c *Cursor, read func() *T) []T {
	l := []T{*read()}
	for c.Takes(",") {
		l = append(l, *read())
	}
	return l
}

// InBrackets takes a list in brackets.
func InBrackets[T any](c *Cursor, read func() *T) []T {
	c.Want("(")
	l := List(c, read)
	c.Want(")")
	return l
}
