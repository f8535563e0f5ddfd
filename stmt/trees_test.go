package stmt_test

import (
	"strings"

	"bureau/api"
	"bureau/expr"
)

// drawer draws statements that texts have; their expressions and selects are read from texts drawn by the grammar.
type drawer struct{ *writer }

func newDrawer(seed int64) drawer { return drawer{newWriter(seed)} }

func (d drawer) pick(l ...string) string { return l[d.Intn(len(l))] }

func (d drawer) yes() bool { return d.Intn(2) == 0 }

func (d drawer) name() string { return d.pick("a", "b", "t", "X", "x", "Int", "nocase", "_1") }

func (d drawer) names(n int) []string {
	var l []string
	for range n {
		l = append(l, d.name())
	}
	return l
}

// sql draws a text of layer 16.
func (d drawer) sql(symbol string) string {
	d.left = d.Intn(12)
	return strings.Join(d.write(symbol), " ")
}

func (d drawer) expr() api.Expr {
	for {
		if e, _, no := expr.Parse(d.sql("or")); no == api.OK {
			return e
		}
	}
}

func (d drawer) exprs(n int) []api.Expr {
	var l []api.Expr
	for range n {
		l = append(l, d.expr())
	}
	return l
}

func (d drawer) selects(symbol string) []api.Select {
	for {
		if s, _, no := expr.ParseSelect(d.sql(symbol)); no == api.OK {
			return []api.Select{s}
		}
	}
}

func (d drawer) constant() []api.Expr {
	if d.Intn(3) == 0 {
		return neg(d.pick("0", "7", "9223372036854775807"))
	}
	return one(d.pick("NULL", "0", "42", "9223372036854775807", "''", "'it''s; --'", "x''", "x'00ff27'"))
}

func (d drawer) column() api.ColDef {
	c := api.ColDef{Name: d.name(), Type: d.pick("", "INTEGER", "TEXT", "BLOB"), Coll: api.Coll(d.Intn(3)), Primary: d.yes(), Unique: d.yes(), NotNull: d.yes(), Check: d.exprs(d.Intn(2))}
	if d.yes() {
		c.Default = d.constant()
	}
	return c
}

func (d drawer) columns(n int) []api.ColDef {
	var l []api.ColDef
	for range n {
		l = append(l, d.column())
	}
	return l
}

func (d drawer) keys(n int) []api.IndexCol {
	var l []api.IndexCol
	for range n {
		k := api.IndexCol{Name: d.name(), Own: d.yes(), Desc: d.yes()}
		if k.Own {
			k.Coll = api.Coll(d.Intn(3))
		}
		l = append(l, k)
	}
	return l
}

func (d drawer) sets(n int) []api.Set {
	var l []api.Set
	for range n {
		l = append(l, api.Set{Name: d.name(), Expr: d.expr()})
	}
	return l
}

func (d drawer) stmt() api.Stmt {
	return d.of(1 + api.StmtKind(d.Intn(int(api.StmtRollTo))))
}

func (d drawer) of(kind api.StmtKind) api.Stmt {
	s := api.Stmt{Kind: kind}
	switch kind {
	case api.StmtSelect:
		s.Select = d.selects("select")
	case api.StmtInsert:
		s.Or, s.Name, s.Cols, s.Select = api.Conflict(d.Intn(3)), d.name(), d.names(d.Intn(3)), d.selects("select")
	case api.StmtUpdate:
		s.Or, s.Name, s.Sets, s.Where = api.Conflict(d.Intn(3)), d.name(), d.sets(1+d.Intn(3)), d.exprs(d.Intn(2))
	case api.StmtDelete:
		s.Name, s.Where = d.name(), d.exprs(d.Intn(2))
	case api.StmtTable:
		s.If, s.Name, s.Defs = d.yes(), d.name(), d.columns(1+d.Intn(4))
	case api.StmtIndex:
		s.Unique, s.If, s.Name, s.Table, s.Keys = d.yes(), d.yes(), d.name(), d.name(), d.keys(1+d.Intn(4))
	case api.StmtView:
		s.If, s.Name, s.Cols, s.Select = d.yes(), d.name(), d.names(d.Intn(3)), d.selects("query")
	case api.StmtDrop:
		s.What, s.If, s.Name = d.pick("table", "index", "view"), d.yes(), d.name()
	case api.StmtRename:
		s.Name, s.To = d.name(), d.name()
	case api.StmtRenameCol:
		s.Name, s.Cols, s.To = d.name(), d.names(1), d.name()
	case api.StmtAddCol:
		s.Name, s.Defs = d.name(), d.columns(1)
	case api.StmtBegin:
		s.What = d.pick("deferred", "immediate", "exclusive")
	case api.StmtSavepoint, api.StmtRelease, api.StmtRollTo:
		s.Name = d.name()
	}
	return s
}

// speller tells statements as words, by the chapter's words and nothing else, also such ones as no text has; a word ~ joins those beside it.
type speller struct {
	choose  func(ways ...string) string
	shuffle func(n int, swap func(i, j int))
}

// printed has what the chapter has of printed texts: the first one of the ways to say the same.
func printedWords() speller {
	return speller{func(ways ...string) string { return ways[0] }, func(int, func(i, j int)) {}}
}

func (d drawer) speller() speller { return speller{d.pick, d.Shuffle} }

// spelt joins words as they are printed.
func spelt(words []string) string {
	s, blank := "", ""
	for _, w := range words {
		if w == "~" {
			blank = ""
			continue
		}
		s += blank + w
		blank = " "
	}
	return s
}

// words puts words one behind the other; a text is cut at its blanks.
func words(l ...any) []string {
	var out []string
	for _, x := range l {
		switch x := x.(type) {
		case string:
			out = append(out, strings.Fields(x)...)
		case []string:
			out = append(out, x...)
		}
	}
	return out
}

func when(is bool, text string) string {
	if is {
		return text
	}
	return ""
}

// exprs are one word each; # is no token.
func exprWords(l []api.Expr) []string {
	var out []string
	for _, e := range l {
		text, no := expr.Print(e)
		if no != api.OK {
			text = "#"
		}
		out = append(out, text)
	}
	return out
}

func selectWords(l []api.Select) []string {
	var out []string
	for _, s := range l {
		text, no := expr.PrintSelect(s)
		if no != api.OK {
			text = "#"
		}
		out = append(out, text)
	}
	return out
}

func clause(word string, l []api.Expr) []string {
	if len(l) == 0 {
		return nil
	}
	return words(word, exprWords(l))
}

func listWords(n int, each func(i int) []string) []string {
	l := []string{"(", "~"}
	for i := range n {
		if i > 0 {
			l = append(l, "~", ",")
		}
		l = append(l, each(i)...)
	}
	return append(l, "~", ")")
}

func (w speller) names(l []string) []string {
	if len(l) == 0 {
		return nil
	}
	return words("~", listWords(len(l), func(i int) []string { return words(l[i]) }))
}

func (w speller) conflict(c api.Conflict) string {
	switch c {
	case api.ConfAbort:
		return w.choose("", "OR ABORT")
	case api.ConfIgnore:
		return "OR IGNORE"
	case api.ConfReplace:
		return "OR REPLACE"
	}
	return "#"
}

func (w speller) rule(c api.Coll) string {
	switch c {
	case api.CollBinary:
		return "COLLATE " + w.choose("BINARY", "Binary")
	case api.CollNoCase:
		return "COLLATE " + w.choose("NOCASE", "nocase")
	case api.CollRTrim:
		return "COLLATE " + w.choose("RTRIM", "rTrim")
	}
	return "#"
}

func (w speller) column(c api.ColDef) []string {
	kind := c.Type
	switch kind {
	case "INTEGER":
		kind = w.choose(kind, "int", "Integer", "INT")
	case "TEXT":
		kind = w.choose(kind, "text")
	case "BLOB":
		kind = w.choose(kind, "bloB")
	}
	coll := w.rule(c.Coll)
	if c.Coll == api.CollBinary {
		coll = w.choose("", coll)
	}
	check := exprWords(c.Check)
	if len(check) > 0 {
		check = words("CHECK ( ~", check, "~ )")
	}
	parts := [][]string{words(when(c.Primary, "PRIMARY KEY")), words(when(c.Unique, "UNIQUE")), words(when(c.NotNull, "NOT NULL")), clause("DEFAULT", c.Default), check, words(coll)}
	w.shuffle(len(parts), func(i, j int) { parts[i], parts[j] = parts[j], parts[i] })
	l := words(c.Name, kind)
	for _, p := range parts {
		l = append(l, p...)
	}
	return l
}

func (w speller) key(k api.IndexCol) []string {
	desc := w.choose("", "ASC")
	if k.Desc {
		desc = "DESC"
	}
	return words(k.Name, when(k.Own, w.rule(k.Coll)), desc)
}

func (w speller) stmt(s api.Stmt) []string {
	ifNot, exists := when(s.If, "IF NOT EXISTS"), when(s.If, "IF EXISTS")
	defs := func() []string {
		return listWords(len(s.Defs), func(i int) []string { return w.column(s.Defs[i]) })
	}
	switch s.Kind {
	case api.StmtSelect:
		return selectWords(s.Select)
	case api.StmtInsert:
		verb := "INSERT " + w.conflict(s.Or)
		if s.Or == api.ConfReplace {
			verb = w.choose(verb, "REPLACE")
		}
		return words(verb, "INTO", s.Name, w.names(s.Cols), selectWords(s.Select))
	case api.StmtUpdate:
		sets := listWords(len(s.Sets), func(i int) []string { return words(s.Sets[i].Name, "=", exprWords([]api.Expr{s.Sets[i].Expr})) })
		return words("UPDATE", w.conflict(s.Or), s.Name, "SET", sets[2:len(sets)-2], clause("WHERE", s.Where))
	case api.StmtDelete:
		return words("DELETE FROM", s.Name, clause("WHERE", s.Where))
	case api.StmtTable:
		return words("CREATE TABLE", ifNot, s.Name, "~", defs())
	case api.StmtIndex:
		keys := listWords(len(s.Keys), func(i int) []string { return w.key(s.Keys[i]) })
		return words("CREATE", when(s.Unique, "UNIQUE"), "INDEX", ifNot, s.Name, "ON", s.Table, "~", keys)
	case api.StmtView:
		return words("CREATE VIEW", ifNot, s.Name, w.names(s.Cols), "AS", selectWords(s.Select))
	case api.StmtDrop:
		return words("DROP", strings.ToUpper(s.What), exists, s.Name)
	case api.StmtRename:
		return words("ALTER TABLE", s.Name, "RENAME TO", s.To)
	case api.StmtRenameCol:
		return words("ALTER TABLE", s.Name, "RENAME", w.choose("COLUMN", ""), strings.Join(s.Cols, " "), "TO", s.To)
	case api.StmtAddCol:
		add := defs()
		return words("ALTER TABLE", s.Name, "ADD", w.choose("COLUMN", ""), add[2:len(add)-2])
	case api.StmtBegin:
		mode := strings.ToUpper(s.What)
		if s.What == "deferred" {
			mode = w.choose("", mode)
		}
		return words("BEGIN", mode, w.choose("", "TRANSACTION"))
	case api.StmtCommit:
		return words(w.choose("COMMIT", "END"), w.choose("", "TRANSACTION"))
	case api.StmtRollback:
		return words("ROLLBACK", w.choose("", "TRANSACTION"))
	case api.StmtRollTo:
		return words("ROLLBACK", w.choose("", "TRANSACTION"), "TO", w.choose("", "SAVEPOINT"), s.Name)
	case api.StmtSavepoint:
		return words("SAVEPOINT", s.Name)
	case api.StmtRelease:
		return words("RELEASE", w.choose("", "SAVEPOINT"), s.Name)
	}
	return words("#")
}

// joined lays blanks and remarks between words, letters of keywords as they come, and signs ; behind.
func (d drawer) joined(l []string) string {
	s := d.pick("", " ", "\n", "-- a remark; '\n")
	for _, w := range l {
		if w == "~" {
			continue
		}
		if d.Intn(3) == 0 && strings.Contains(" "+keywords+" ", " "+w+" ") {
			w = strings.ToLower(w)
		}
		s += w + d.pick(" ", " ", "\t", "\r\n", " -- a remark;\n", " --\n")
	}
	return s + d.pick("", "", ";", ";;", "; --;\n;")
}
