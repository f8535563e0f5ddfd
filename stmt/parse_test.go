package stmt_test

import (
	"strings"
	"testing"

	"bureau/api"
	"bureau/stmt"
)

// said is a text, the statement that it is read as, and its text when it is printed.
type said struct {
	sql     string
	want    api.Stmt
	printed string
}

func (x said) holds(t *testing.T) {
	t.Helper()
	reads(t, x.sql, x.want)
	for _, behind := range []string{";", ";;;", " ; ;-- ;", "--;"} {
		reads(t, "\n-- a remark\n"+x.sql+behind, x.want)
	}
	prints(t, x.want, x.printed)
	reads(t, x.printed, x.want)
}

func TestP171Examples(t *testing.T) {
	for _, x := range [][2]string{
		{"insert or abort into t(a,b) values(1,?);;", "INSERT INTO t(a, b) VALUES (1, ?1)"},
		{"replace into t select * from u", "INSERT OR REPLACE INTO t SELECT * FROM u"},
		{"create table if not exists t (a int primary key, b text check(b>1) not null default -1 collate nocase, c)", "CREATE TABLE IF NOT EXISTS t(a INTEGER PRIMARY KEY, b TEXT NOT NULL DEFAULT -1 CHECK (b > 1) COLLATE NOCASE, c)"},
		{"create unique index i on t(a collate binary asc, b desc)", "CREATE UNIQUE INDEX i ON t(a COLLATE BINARY, b DESC)"},
		{"begin transaction", "BEGIN"}, {"end", "COMMIT"}, {"rollback to savepoint s", "ROLLBACK TO s"}, {"alter table t rename a to b", "ALTER TABLE t RENAME COLUMN a TO b"},
	} {
		s, at, no := stmt.Parse(x[0])
		if no != api.OK || at != 0 {
			t.Error(x[0], at, no)
		}
		prints(t, s, x[1])
	}
	for _, x := range []struct {
		sql   string
		place int
	}{{"", 0}, {";", 0}, {"drop t", 5}, {"create table t(a unique unique)", 24}, {"delete from t where", 19}} {
		refuses(t, x.sql, x.place, api.ErrSyntax)
	}
}

func TestP171Selects(t *testing.T) {
	for _, x := range []said{
		{"select 1", api.Stmt{Kind: api.StmtSelect, Select: sub("select 1")}, "SELECT 1"},
		{"values (1, 2)", api.Stmt{Kind: api.StmtSelect, Select: sub("values (1, 2)")}, "VALUES (1, 2)"},
		{"with w as (select 1) select * from w order by a limit 2", api.Stmt{Kind: api.StmtSelect, Select: sub("with w as (select 1) select * from w order by a limit 2")}, "WITH w AS (SELECT 1) SELECT * FROM w ORDER BY a LIMIT 2"},
	} {
		x.holds(t)
	}
}

func TestP171Changes(t *testing.T) {
	insert := func(or api.Conflict, cols []string, sql string) api.Stmt {
		return api.Stmt{Kind: api.StmtInsert, Or: or, Name: "t", Cols: cols, Select: sub(sql)}
	}
	update := func(or api.Conflict, where []api.Expr, sets ...api.Set) api.Stmt {
		return api.Stmt{Kind: api.StmtUpdate, Or: or, Name: "t", Sets: sets, Where: where}
	}
	a1 := api.Set{Name: "a", Expr: ex("1")}
	for _, x := range []said{
		{"insert into t values (1)", insert(0, nil, "values (1)"), "INSERT INTO t VALUES (1)"},
		{"insert into t (a) values (1), (2)", insert(0, []string{"a"}, "values (1), (2)"), "INSERT INTO t(a) VALUES (1), (2)"},
		{"insert into t (a, B, a) select 1", insert(0, []string{"a", "B", "a"}, "select 1"), "INSERT INTO t(a, B, a) SELECT 1"},
		{"insert or abort into t select 1", insert(api.ConfAbort, nil, "select 1"), "INSERT INTO t SELECT 1"},
		{"insert or ignore into t select 1", insert(api.ConfIgnore, nil, "select 1"), "INSERT OR IGNORE INTO t SELECT 1"},
		{"insert or replace into t select 1", insert(api.ConfReplace, nil, "select 1"), "INSERT OR REPLACE INTO t SELECT 1"},
		{"replace into t select 1", insert(api.ConfReplace, nil, "select 1"), "INSERT OR REPLACE INTO t SELECT 1"},
		{"Replace Into t(a) values (1)", insert(api.ConfReplace, []string{"a"}, "values (1)"), "INSERT OR REPLACE INTO t(a) VALUES (1)"},
		{"insert into t with w as (select 1) select * from w", insert(0, nil, "with w as (select 1) select * from w"), "INSERT INTO t WITH w AS (SELECT 1) SELECT * FROM w"},
		{"insert into t(a) with recursive w(b) as (select 1) select * from w", insert(0, []string{"a"}, "with w(b) as (select 1) select * from w"), "INSERT INTO t(a) WITH w(b) AS (SELECT 1) SELECT * FROM w"},
		{"update t set a = 1", update(0, nil, a1), "UPDATE t SET a = 1"},
		{"update t set a = 1, b = a = 2 where c", update(0, one("c"), a1, api.Set{Name: "b", Expr: ex("a = 2")}), "UPDATE t SET a = 1, b = a = 2 WHERE c"},
		{"update or abort t set a = 1", update(api.ConfAbort, nil, a1), "UPDATE t SET a = 1"},
		{"update or ignore t set a = 1", update(api.ConfIgnore, nil, a1), "UPDATE OR IGNORE t SET a = 1"},
		{"update or replace t set a = 1, a = 1", update(api.ConfReplace, nil, a1, a1), "UPDATE OR REPLACE t SET a = 1, a = 1"},
		{"update t set a = (b or c) where (d)", update(0, one("d"), api.Set{Name: "a", Expr: ex("b or c")}), "UPDATE t SET a = b OR c WHERE d"},
		{"delete from t", api.Stmt{Kind: api.StmtDelete, Name: "t"}, "DELETE FROM t"},
		{"delete from T where a in (select 1)", api.Stmt{Kind: api.StmtDelete, Name: "T", Where: one("a in (select 1)")}, "DELETE FROM T WHERE a IN (SELECT 1)"},
	} {
		x.holds(t)
	}
}

func TestP171Things(t *testing.T) {
	defs := func(name string, is bool, l ...api.ColDef) api.Stmt {
		return api.Stmt{Kind: api.StmtTable, Name: name, If: is, Defs: l}
	}
	index := func(unique, is bool, l ...api.IndexCol) api.Stmt {
		return api.Stmt{Kind: api.StmtIndex, Unique: unique, If: is, Name: "i", Table: "t", Keys: l}
	}
	view := func(is bool, cols []string, sql string) api.Stmt {
		return api.Stmt{Kind: api.StmtView, If: is, Name: "v", Cols: cols, Select: sub(sql)}
	}
	drop := func(what string, is bool) api.Stmt {
		return api.Stmt{Kind: api.StmtDrop, What: what, If: is, Name: "x"}
	}
	ka, kb := api.IndexCol{Name: "a"}, api.IndexCol{Name: "b"}
	for _, x := range []said{
		{"create table t(a)", defs("t", false, api.ColDef{Name: "a"}), "CREATE TABLE t(a)"},
		{"create table if not exists t (a, b, c)", defs("t", true, api.ColDef{Name: "a"}, api.ColDef{Name: "b"}, api.ColDef{Name: "c"}), "CREATE TABLE IF NOT EXISTS t(a, b, c)"},
		{"create table int(text text, int int)", defs("int", false, api.ColDef{Name: "text", Type: "TEXT"}, api.ColDef{Name: "int", Type: "INTEGER"}), "CREATE TABLE int(text TEXT, int INTEGER)"},
		{"create index i on t(a)", index(false, false, ka), "CREATE INDEX i ON t(a)"},
		{"create unique index if not exists i on t (a, b, a)", index(true, true, ka, kb, ka), "CREATE UNIQUE INDEX IF NOT EXISTS i ON t(a, b, a)"},
		{"create index if not exists i on t(a)", index(false, true, ka), "CREATE INDEX IF NOT EXISTS i ON t(a)"},
		{"create view v as select 1", view(false, nil, "select 1"), "CREATE VIEW v AS SELECT 1"},
		{"create view v(a) as values (1)", view(false, []string{"a"}, "values (1)"), "CREATE VIEW v(a) AS VALUES (1)"},
		{"create view if not exists v (a, b) as select 1, 2 union select 3, 4", view(true, []string{"a", "b"}, "select 1, 2 union select 3, 4"), "CREATE VIEW IF NOT EXISTS v(a, b) AS SELECT 1, 2 UNION SELECT 3, 4"},
		{"drop table x", drop("table", false), "DROP TABLE x"}, {"drop table if exists x", drop("table", true), "DROP TABLE IF EXISTS x"},
		{"drop index x", drop("index", false), "DROP INDEX x"}, {"drop index if exists x", drop("index", true), "DROP INDEX IF EXISTS x"},
		{"drop view x", drop("view", false), "DROP VIEW x"}, {"Drop View If Exists x", drop("view", true), "DROP VIEW IF EXISTS x"},
		{"alter table t rename to u", api.Stmt{Kind: api.StmtRename, Name: "t", To: "u"}, "ALTER TABLE t RENAME TO u"},
		{"alter table t rename a to b", api.Stmt{Kind: api.StmtRenameCol, Name: "t", Cols: []string{"a"}, To: "b"}, "ALTER TABLE t RENAME COLUMN a TO b"},
		{"alter table t rename column a to b", api.Stmt{Kind: api.StmtRenameCol, Name: "t", Cols: []string{"a"}, To: "b"}, "ALTER TABLE t RENAME COLUMN a TO b"},
		{"alter table t add a", api.Stmt{Kind: api.StmtAddCol, Name: "t", Defs: []api.ColDef{{Name: "a"}}}, "ALTER TABLE t ADD COLUMN a"},
		{"alter table t add column a int unique", api.Stmt{Kind: api.StmtAddCol, Name: "t", Defs: []api.ColDef{{Name: "a", Type: "INTEGER", Unique: true}}}, "ALTER TABLE t ADD COLUMN a INTEGER UNIQUE"},
	} {
		x.holds(t)
	}
}

func TestP171Transactions(t *testing.T) {
	begin := func(what string) api.Stmt { return api.Stmt{Kind: api.StmtBegin, What: what} }
	name := func(kind api.StmtKind) api.Stmt { return api.Stmt{Kind: kind, Name: "s"} }
	for _, x := range []said{
		{"begin", begin("deferred"), "BEGIN"}, {"begin deferred", begin("deferred"), "BEGIN"}, {"begin immediate", begin("immediate"), "BEGIN IMMEDIATE"}, {"begin Exclusive", begin("exclusive"), "BEGIN EXCLUSIVE"},
		{"begin transaction", begin("deferred"), "BEGIN"}, {"begin deferred transaction", begin("deferred"), "BEGIN"}, {"begin immediate transaction", begin("immediate"), "BEGIN IMMEDIATE"}, {"begin exclusive transaction", begin("exclusive"), "BEGIN EXCLUSIVE"},
		{"commit", name(api.StmtCommit), "COMMIT"}, {"commit transaction", name(api.StmtCommit), "COMMIT"}, {"end", name(api.StmtCommit), "COMMIT"}, {"end transaction", name(api.StmtCommit), "COMMIT"},
		{"rollback", name(api.StmtRollback), "ROLLBACK"}, {"rollback transaction", name(api.StmtRollback), "ROLLBACK"},
		{"rollback to s", name(api.StmtRollTo), "ROLLBACK TO s"}, {"rollback transaction to s", name(api.StmtRollTo), "ROLLBACK TO s"}, {"rollback to savepoint s", name(api.StmtRollTo), "ROLLBACK TO s"}, {"rollback transaction to savepoint s", name(api.StmtRollTo), "ROLLBACK TO s"},
		{"savepoint s", name(api.StmtSavepoint), "SAVEPOINT s"}, {"release s", name(api.StmtRelease), "RELEASE s"}, {"release savepoint s", name(api.StmtRelease), "RELEASE s"},
	} {
		if x.want.Kind == api.StmtCommit || x.want.Kind == api.StmtRollback {
			x.want.Name = ""
		}
		x.holds(t)
	}
}

// TestP171Columns has each part of a column in any order.
func TestP171Columns(t *testing.T) {
	type part struct {
		sql, printed string
		put          func(*api.ColDef)
	}
	all := []part{
		{"primary key", "PRIMARY KEY", func(d *api.ColDef) { d.Primary = true }},
		{"unique", "UNIQUE", func(d *api.ColDef) { d.Unique = true }},
		{"not null", "NOT NULL", func(d *api.ColDef) { d.NotNull = true }},
		{"default 'x'", "DEFAULT 'x'", func(d *api.ColDef) { d.Default = one("'x'") }},
		{"check (a or b)", "CHECK (a OR b)", func(d *api.ColDef) { d.Check = one("a or b") }},
		{"collate rtrim", "COLLATE RTRIM", func(d *api.ColDef) { d.Coll = api.CollRTrim }},
	}
	var grow func(had []int)
	count := 0
	grow = func(had []int) {
		count++
		for _, kind := range [][2]string{{"", ""}, {" int", " INTEGER"}, {" Blob", " BLOB"}} {
			sql, d := "a"+kind[0], api.ColDef{Name: "a", Type: strings.TrimSpace(kind[1])}
			is := map[int]bool{}
			for _, i := range had {
				sql += " " + all[i].sql
				all[i].put(&d)
				is[i] = true
			}
			printed := "a" + kind[1]
			for i, p := range all {
				if is[i] {
					printed += " " + p.printed
				}
			}
			x := api.Stmt{Kind: api.StmtTable, Name: "t", Defs: []api.ColDef{d, {Name: "b"}}}
			reads(t, "create table t("+sql+", b)", x)
			prints(t, x, "CREATE TABLE t("+printed+", b)")
			x = api.Stmt{Kind: api.StmtAddCol, Name: "t", Defs: []api.ColDef{d}}
			reads(t, "alter table t add "+sql, x)
			prints(t, x, "ALTER TABLE t ADD COLUMN "+printed)
			for i, p := range all {
				if is[i] {
					refuses(t, "alter table t add "+sql+" "+p.sql, len("alter table t add "+sql+" "), api.ErrSyntax)
					refuses(t, "create table t(b, "+sql+" "+p.sql+")", len("create table t(b, "+sql+" "), api.ErrSyntax)
				}
			}
		}
		for i := range all {
			again := false
			for _, j := range had {
				again = again || i == j
			}
			if !again {
				grow(append(append([]int(nil), had...), i))
			}
		}
	}
	grow(nil)
	if count != 1957 {
		t.Error(count)
	}
}

func TestP171ColumnParts(t *testing.T) {
	column := func(sql string, d api.ColDef, printed string) {
		t.Helper()
		d.Name = "a"
		said{"create table t(a " + sql + ")", api.Stmt{Kind: api.StmtTable, Name: "t", Defs: []api.ColDef{d}}, "CREATE TABLE t(a" + printed + ")"}.holds(t)
	}
	for _, x := range [][2]string{{"integer", "INTEGER"}, {"INTEGER", "INTEGER"}, {"int", "INTEGER"}, {"Int", "INTEGER"}, {"INT", "INTEGER"}, {"text", "TEXT"}, {"Text", "TEXT"}, {"blob", "BLOB"}, {"bLOB", "BLOB"}} {
		column(x[0], api.ColDef{Type: x[1]}, " "+x[1])
	}
	for _, w := range []string{"", "int ", "unique "} {
		kind := map[string]string{"int ": "INTEGER"}[w]
		ahead := map[string]string{"int ": " INTEGER", "unique ": " UNIQUE"}[w]
		column(w+"collate Binary", api.ColDef{Type: kind, Unique: w == "unique "}, ahead)
		column(w+"collate NoCase", api.ColDef{Type: kind, Unique: w == "unique ", Coll: api.CollNoCase}, ahead+" COLLATE NOCASE")
		column(w+"collate rtrim", api.ColDef{Type: kind, Unique: w == "unique ", Coll: api.CollRTrim}, ahead+" COLLATE RTRIM")
	}
	long, blob := "'"+strings.Repeat("z", api.MaxValue)+"'", "x'"+strings.Repeat("0a", api.MaxValue)+"'"
	for _, x := range [][2]string{{"null", "NULL"}, {"0", "0"}, {"007", "7"}, {"9223372036854775807", "9223372036854775807"}, {"'it''s'", "'it''s'"}, {"''", "''"}, {"X'0A'", "x'0a'"}, {"x''", "x''"}, {long, long}, {blob, blob}} {
		column("default "+x[0], api.ColDef{Default: one(x[0])}, " DEFAULT "+x[1])
		column("default "+x[0]+" not null", api.ColDef{Default: one(x[0]), NotNull: true}, " NOT NULL DEFAULT "+x[1])
	}
	for _, x := range [][2]string{{"-1", "-1"}, {"- 1", "-1"}, {"-0", "-0"}, {"-\n--\n009", "-9"}, {"-9223372036854775807", "-9223372036854775807"}} {
		column("default "+x[0], api.ColDef{Default: neg(x[1][1:])}, " DEFAULT "+x[1])
		column("default "+x[0]+" collate binary", api.ColDef{Default: neg(x[1][1:])}, " DEFAULT "+x[1])
	}
	column("check(a)", api.ColDef{Check: one("a")}, " CHECK (a)")
	column("check (((a)))", api.ColDef{Check: one("a")}, " CHECK (a)")
	column("check ((select 1))", api.ColDef{Check: one("(select 1)")}, " CHECK ((SELECT 1))")
	column("check (a is not null)", api.ColDef{Check: one("a is not null")}, " CHECK (a IS NOT NULL)")
}

func TestP171Keys(t *testing.T) {
	for _, r := range []struct {
		sql, printed string
		own          bool
		coll         api.Coll
	}{{"", "", false, 0}, {" collate binary", " COLLATE BINARY", true, api.CollBinary}, {" COLLATE NoCase", " COLLATE NOCASE", true, api.CollNoCase}, {" collate RTRIM", " COLLATE RTRIM", true, api.CollRTrim}} {
		for _, d := range []struct {
			sql, printed string
			desc         bool
		}{{"", "", false}, {" asc", "", false}, {" desc", " DESC", true}} {
			k := api.IndexCol{Name: "a", Own: r.own, Coll: r.coll, Desc: d.desc}
			said{"create index i on t(a" + r.sql + d.sql + ")", api.Stmt{Kind: api.StmtIndex, Name: "i", Table: "t", Keys: []api.IndexCol{k}}, "CREATE INDEX i ON t(a" + r.printed + d.printed + ")"}.holds(t)
			said{"create index i on t(b,a" + r.sql + d.sql + ",c desc)", api.Stmt{Kind: api.StmtIndex, Name: "i", Table: "t", Keys: []api.IndexCol{{Name: "b"}, k, {Name: "c", Desc: true}}}, "CREATE INDEX i ON t(b, a" + r.printed + d.printed + ", c DESC)"}.holds(t)
		}
	}
}

// TestP171Params: parameters are numbered through the whole statement.
func TestP171Params(t *testing.T) {
	for _, x := range [][2]string{
		{"update t set a = ?, b = (select ? where ?7), c = ? where ? in (?, ?2, ?)", "UPDATE t SET a = ?1, b = (SELECT ?2 WHERE ?7), c = ?8 WHERE ?9 IN (?10, ?2, ?11)"},
		{"update t set a = ?3 where ?", "UPDATE t SET a = ?3 WHERE ?4"}, {"update t set a = 1, b = ? where ?", "UPDATE t SET a = 1, b = ?1 WHERE ?2"},
		{"create table t(a check (?), b default 5 check (? + ?9), c check (?1) default -2 not null, d check (?))", "CREATE TABLE t(a CHECK (?1), b DEFAULT 5 CHECK (?2 + ?9), c NOT NULL DEFAULT -2 CHECK (?1), d CHECK (?10))"},
		{"create table t(a check (?5) default 5, b default -1 check (?))", "CREATE TABLE t(a DEFAULT 5 CHECK (?5), b DEFAULT -1 CHECK (?6))"},
		{"insert into t with w as (values (?)) select ?, (select ?) from w limit ? offset ?", "INSERT INTO t WITH w AS (VALUES (?1)) SELECT ?2, (SELECT ?3) FROM w LIMIT ?4 OFFSET ?5"},
		{"select ?, ?", "SELECT ?1, ?2"}, {"delete from t where ? = ?", "DELETE FROM t WHERE ?1 = ?2"}, {"create view v as select ?16, ?1", "CREATE VIEW v AS SELECT ?16, ?1"}, {"alter table t add a check (?)", "ALTER TABLE t ADD COLUMN a CHECK (?1)"},
	} {
		s, at, no := stmt.Parse(x[0])
		if no != api.OK || at != 0 {
			t.Error(x[0], at, no)
		}
		prints(t, s, x[1])
	}
	refuses(t, "update t set a = ?16 where ?", 27, api.ErrSyntax)
	refuses(t, "update t set a = ?16, b = ?", 26, api.ErrSyntax)
	refuses(t, "create table t(a check (?16), b check (?))", 39, api.ErrSyntax)
	refuses(t, "delete from t where ?17", 20, api.ErrSyntax)
	refuses(t, "delete from t where ?0", 20, api.ErrSyntax)
}

func TestP171LongAndTokens(t *testing.T) {
	full := "delete from t" + strings.Repeat(" ", api.MaxSql-14) + ";"
	reads(t, full, api.Stmt{Kind: api.StmtDelete, Name: "t"})
	refuses(t, full+" ", 0, api.ErrLong)
	refuses(t, strings.Repeat("#", api.MaxSql+1), 0, api.ErrLong)
	refuses(t, strings.Repeat("#", api.MaxSql), 0, api.ErrToken)
	for _, x := range []struct {
		sql   string
		place int
	}{{"delete from t #", 14}, {"drop drop 'a", 10}, {"select x'0'", 7}, {"; !", 2}, {"delete from t where \x00", 20}, {"\"a\"", 0}, {"select 'a' ` '", 11}} {
		refuses(t, x.sql, x.place, api.ErrToken)
	}
}

func TestP171Ends(t *testing.T) {
	for _, x := range []struct {
		sql   string
		place int
	}{
		{"", 0}, {" ", 1}, {"--x", 3}, {"\n", 1}, {";", 0}, {";;", 0}, {" ; ", 1}, {"--\n;", 3}, {"; select 1", 0}, {"select 1; select 2", 10}, {"select 1;;begin", 10}, {"begin; ; ; a", 11}, {"begin;)", 6}, {"select; 1", 6}, {"insert; into", 6}, {"create table t(a);)", 18}, {"create table t(a;)", 16}, {"create table t;(a)", 14}, {"begin;immediate", 6}, {"commit; transaction", 8}, {"rollback;to s", 9}, {"update t set a = 1; where 1", 20}, {"delete from t; where 1", 15}, {"alter table t add; a", 17}, {"release;s", 7}, {"drop table;t", 10},
	} {
		refuses(t, x.sql, x.place, api.ErrSyntax)
	}
}

// deepOnes are statements with a place for an expression or a select, whose depth may be what is told more or less.
func deepOnes() map[string]int {
	return map[string]int{
		"delete from t where @": 0, "update t set a = @": 0, "update t set a = 1, b = @, c = 2": 0, "update t set a = 1 where @": 0, "create table t(a check (@))": 0, "create table t(a, b check (@), c)": 0, "alter table t add a check (@)": 0,
		"select @": 1, "insert into t select @": 1, "insert into t values (@)": 1, "create view v as select @": 1, "with w as (select @) select 1": 2, "insert into t with w as (select @) select 1": 2, "delete from t where (select @)": 2, "update t set a = (select @)": 2, "create view v as select 1 from (select @)": 2,
		"select * from t where @": 1, "select 1 order by @": 1,
	}
}

func TestP171Deep(t *testing.T) {
	for sql, more := range deepOnes() {
		good, bad := strings.Replace(sql, "@", deep(api.MaxDepth-more), 1), strings.Replace(sql, "@", deep(api.MaxDepth-more+1), 1)
		if s, at, no := stmt.Parse(good); no != api.OK || at != 0 || stmt.Check(s) != api.OK {
			t.Error(good, at, no)
		}
		refuses(t, bad, 0, api.ErrDeep)
		refuses(t, bad+";;", 0, api.ErrDeep)
		refuses(t, bad+" 1", len(bad)+1, api.ErrSyntax)
		refuses(t, bad+"; 1", len(bad)+2, api.ErrSyntax)
		refuses(t, bad+" #", len(bad)+1, api.ErrToken)
	}
	refuses(t, "create table t(a check ("+deep(13)+") unique unique)", len("create table t(a check ("+deep(13)+") unique "), api.ErrSyntax)
}
