package stmt_test

import (
	"testing"

	"bureau/api"
	"bureau/stmt"
)

// TestP174DrawnTrees prints drawn statements as the chapter's words do, and reads them from texts of any spelling.
func TestP174DrawnTrees(t *testing.T) {
	d := newDrawer(1)
	count := map[api.StmtKind]int{}
	for range 4000 {
		s := d.stmt()
		want := spelt(printedWords().stmt(s))
		prints(t, s, want)
		if stmt.Check(s) != api.OK {
			t.Fatalf("%+v: %v", s, stmt.Check(s))
		}
		if len(want) <= api.MaxSql {
			reads(t, want, s)
			count[s.Kind]++
		}
		for range 3 {
			if sql := d.joined(d.speller().stmt(s)); len(sql) <= api.MaxSql {
				reads(t, sql, s)
			}
		}
		if t.Failed() {
			return
		}
	}
	for kind := api.StmtSelect; kind <= api.StmtRollTo; kind++ {
		if count[kind] < 50 {
			t.Error(kind, count[kind])
		}
	}
}

// TestP174PrintedAgain: what was read is printed, read as the same, and printed as the same again.
func TestP174PrintedAgain(t *testing.T) {
	d := newDrawer(2)
	count := 0
	for range 1500 {
		s, no := parsed(t, d.joined(d.text()))
		if no == api.ErrDeep {
			continue
		}
		text := printed(t, s)
		if no != api.OK {
			t.Fatal(text, no)
		}
		if len(text) > api.MaxSql {
			continue
		}
		reads(t, text, s)
		again, _ := parsed(t, text)
		prints(t, again, text)
		count++
	}
	if count < 1000 {
		t.Error(count)
	}
}

// TestP174NothingChanges: signs, blanks, remarks and the case of keywords, one text after the other.
func TestP174NothingChanges(t *testing.T) {
	for _, l := range [][]string{
		{"create table if not exists t(a int primary key, b text check(b>1) not null default -1 collate nocase, c)", "CREATE TABLE IF NOT EXISTS t(a INT PRIMARY KEY,b TEXT CHECK(b>1)NOT NULL DEFAULT-1 COLLATE NOCASE,c)", "Create\nTable If\tNot Exists t ( a iNT Primary Key , b Text Check ( b > 1 ) -- ;\nNot Null Default - 1 Collate Nocase , c ) ;;", "create/table"},
		{"insert into t(a)values(1)", "INSERT--\nINTO t ( a ) VALUES ( 1 ) ; ; ;", "insert into t(a)--'\nvalues(1)--", "insert"},
		{"update t set a=1,b=2where c", "UPDATE t SET a = 1 , b = 2 WHERE c;", "update t set a=1,b=2 where(c)", "update"},
		{"drop view if exists v", "DROP VIEW\r\nIF EXISTS\r\nv\r\n;", "drop"},
	} {
		want, no := parsed(t, l[0])
		for _, sql := range l[:len(l)-1] {
			reads(t, sql, want)
		}
		if _, e := parsed(t, l[len(l)-1]); no != api.OK || e != api.ErrSyntax {
			t.Error(l, no, e)
		}
	}
}
