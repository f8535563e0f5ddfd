package token_test

import (
	"slices"
	"strings"
	"testing"

	"bureau/api"
	"bureau/token"
)

// Tokens by hand: each with its place.
func word(at int, s string) api.Token  { return api.Token{Kind: api.TokWord, At: at, Text: s} }
func num(at int, s string) api.Token   { return api.Token{Kind: api.TokInt, At: at, Text: s} }
func text(at int, s string) api.Token  { return api.Token{Kind: api.TokText, At: at, Text: s} }
func blob(at int, s string) api.Token  { return api.Token{Kind: api.TokBlob, At: at, Text: s} }
func param(at int, s string) api.Token { return api.Token{Kind: api.TokParam, At: at, Text: s} }
func sign(at int, s string) api.Token  { return api.Token{Kind: api.TokSign, At: at, Text: s} }

func short(s string) string {
	if len(s) > 60 {
		return s[:60] + ".."
	}
	return s
}

// scans fails the test unless a text has just those tokens.
func scans(t *testing.T, sql string, want ...api.Token) {
	t.Helper()
	if l, at, e := token.Scan(sql); !slices.Equal(l, want) || at != 0 || e != api.OK {
		t.Errorf("Scan(%q) = %v %d %v, not %v", short(sql), l, at, e, want)
	}
	goesOver(t, sql, want)
}

// fails fails the test unless a text has those tokens up to a place where one begins that is none.
func fails(t *testing.T, sql string, place int, ahead ...api.Token) {
	t.Helper()
	if l, at, e := token.Scan(sql); l != nil || at != place || e != api.ErrToken {
		t.Errorf("Scan(%q) = %v %d %v, not %d", short(sql), l, at, e, place)
	}
	goesOver(t, sql, ahead)
	if l, e := token.Split(sql); l != nil || e != api.ErrToken {
		t.Errorf("Split(%q) = %q %v", short(sql), l, e)
	}
}

// goesOver fails the test unless All tells just those tokens, also if it is gone over again, and if it is left early.
func goesOver(t *testing.T, sql string, want []api.Token) {
	t.Helper()
	all := token.All(sql)
	for range 2 {
		if l := slices.Collect(all); !slices.Equal(l, want) {
			t.Errorf("All(%q) = %v, not %v", short(sql), l, want)
		}
	}
	for n := range want {
		var l []api.Token
		for x := range all {
			if l = append(l, x); len(l) > n {
				break
			}
		}
		if !slices.Equal(l, want[:n+1]) {
			t.Errorf("All(%q), left behind %d, told %v", short(sql), n+1, l)
		}
		if n > 20 {
			return
		}
	}
}

// tooLong fails the test unless a text is refused for its length.
func tooLong(t *testing.T, sql string) {
	t.Helper()
	if l, at, e := token.Scan(sql); l != nil || at != 0 || e != api.ErrLong {
		t.Errorf("Scan of %d bytes: %v %d %v", len(sql), l, at, e)
	}
	goesOver(t, sql, nil)
}

// splits fails the test unless a text has just those pieces.
func splits(t *testing.T, sql string, want ...string) {
	t.Helper()
	if l, e := token.Split(sql); !slices.Equal(l, want) || e != api.OK {
		t.Errorf("Split(%q) = %q %v, not %q", short(sql), l, e, want)
	}
}

// prints fails the test unless tokens are written so.
func prints(t *testing.T, want string, l ...api.Token) {
	t.Helper()
	if s, e := token.Print(l...); s != want || e != api.OK {
		t.Errorf("Print(%v) = %q %v, not %q", l, short(s), e, short(want))
	}
}

// mayNotBe fails the test unless Print refuses a token, wherever it stands among others.
func mayNotBe(t *testing.T, kind api.TokKind, s string) {
	t.Helper()
	bad, good := api.Token{Kind: kind, Text: s}, word(0, "a")
	for _, l := range [][]api.Token{{bad}, {bad, good}, {good, bad}, {good, good, bad, good}, {bad, bad}} {
		if s, e := token.Print(l...); s != "" || e != api.ErrArg {
			t.Errorf("Print(%v) = %q %v", l, s, e)
		}
	}
}

var (
	signs = strings.Split("( ) , ; . * + - / % = < >", " ")
	pairs = strings.Split("|| == <> != <= >=", " ")

	keywords = strings.Fields(`ABORT ADD ALL ALTER AND AS ASC BEGIN BETWEEN BY CASE CAST CHECK COLLATE COLUMN COMMIT CREATE CROSS DEFAULT DEFERRED DELETE DESC DISTINCT DROP
		ELSE END EXCEPT EXCLUSIVE EXISTS FROM GLOB GROUP HAVING IF IGNORE IMMEDIATE IN INDEX INNER INSERT INTERSECT INTO IS JOIN KEY LEFT LIKE LIMIT NOT NULL OFFSET ON OR ORDER OUTER
		PRIMARY RECURSIVE RELEASE RENAME REPLACE ROLLBACK SAVEPOINT SELECT SET TABLE THEN TO TRANSACTION UNION UNIQUE UPDATE USING VALUES VIEW WHEN WHERE WITH`)
)
