package stmt_test

import (
	"strings"
	"testing"

	"bureau/api"
	"bureau/expr"
	"bureau/stmt"
)

// Trees by hand, told shortly; those of layer 16 by their texts.

func ex(sql string) api.Expr {
	e, _, no := expr.Parse(sql)
	if no != api.OK {
		panic(sql)
	}
	return e
}

func one(sql string) []api.Expr { return []api.Expr{ex(sql)} }

func sub(sql string) []api.Select {
	s, _, no := expr.ParseSelect(sql)
	if no != api.OK {
		panic(sql)
	}
	return []api.Select{s}
}

func neg(digits string) []api.Expr {
	return []api.Expr{{Op: api.OpNeg, Args: one(digits)}}
}

// deep is the text of an expression of that depth.
func deep(n int) string {
	return strings.Repeat("-(", n-1) + "a" + strings.Repeat(")", n-1)
}

func reads(t *testing.T, sql string, want api.Stmt) {
	t.Helper()
	if s, at, no := stmt.Parse(sql); no != api.OK || at != 0 || !stmt.Same(s, want) {
		t.Errorf("%q is read as %+v, at %d, %v", sql, s, at, no)
	}
}

func refuses(t *testing.T, sql string, place int, want api.Errno) {
	t.Helper()
	if s, at, no := stmt.Parse(sql); no != want || at != place || !stmt.Same(s, api.Stmt{}) {
		t.Errorf("%q is read as %+v, at %d, %v; not at %d, %v", sql, s, at, no, place, want)
	}
}

func prints(t *testing.T, s api.Stmt, want string) {
	t.Helper()
	if text, no := stmt.Print(s); no != api.OK || text != want {
		t.Errorf("%+v is printed as %q, %v; not %q", s, text, no, want)
	}
}

func checks(t *testing.T, s api.Stmt, want api.Errno) {
	t.Helper()
	text, no := stmt.Print(s)
	if c := stmt.Check(s); c != want || no != want || (text == "") != (want != api.OK) {
		t.Errorf("%+v: %v, printed as %q, %v; not %v", s, c, text, no, want)
	}
}

const keywords = "ABORT ADD ALL ALTER AND AS ASC BEGIN BETWEEN BY CASE CAST CHECK COLLATE COLUMN COMMIT CREATE CROSS DEFAULT DEFERRED DELETE DESC DISTINCT DROP ELSE END EXCEPT EXCLUSIVE EXISTS FROM GLOB GROUP HAVING IF IGNORE IMMEDIATE IN INDEX INNER INSERT INTERSECT INTO IS JOIN KEY LEFT LIKE LIMIT NOT NULL OFFSET ON OR ORDER OUTER PRIMARY RECURSIVE RELEASE RENAME REPLACE ROLLBACK SAVEPOINT SELECT SET TABLE THEN TO TRANSACTION UNION UNIQUE UPDATE USING VALUES VIEW WHEN WHERE WITH"

func parsed(t *testing.T, sql string) (api.Stmt, api.Errno) {
	t.Helper()
	s, at, no := stmt.Parse(sql)
	if at != 0 && no != api.ErrSyntax && no != api.ErrToken {
		t.Errorf("%q: at %d, %v", sql, at, no)
	}
	return s, no
}

func printed(t *testing.T, s api.Stmt) string {
	t.Helper()
	text, no := stmt.Print(s)
	if no != api.OK {
		t.Errorf("%+v: %v", s, no)
	}
	return text
}
