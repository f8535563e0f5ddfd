package stmt

import (
	"strings"

	"bureau/api"
	"bureau/expr"
)

// Print tells a statement's text.
func Print(s api.Stmt) (string, api.Errno) {
	if e := Check(s); e != api.OK {
		return "", e
	}
	return text(s), api.OK
}

func text(s api.Stmt) string {
	switch s.Kind {
	case api.StmtSelect:
		return selectText(s)
	case api.StmtInsert:
		return "INSERT " + orText(s.Or) + "INTO " + s.Name + namesText(s.Cols) + " " + selectText(s)
	case api.StmtUpdate:
		return "UPDATE " + orText(s.Or) + s.Name + " SET " + commas(s.Sets, setText) + exprText(" WHERE ", s.Where, "")
	case api.StmtDelete:
		return "DELETE FROM " + s.Name + exprText(" WHERE ", s.Where, "")
	case api.StmtTable:
		return "CREATE TABLE " + told(s.If, "IF NOT EXISTS ") + s.Name + "(" + commas(s.Defs, defText) + ")"
	case api.StmtIndex:
		return "CREATE " + told(s.Unique, "UNIQUE ") + "INDEX " + told(s.If, "IF NOT EXISTS ") + s.Name + " ON " + s.Table + "(" + commas(s.Keys, keyText) + ")"
	case api.StmtView:
		return "CREATE VIEW " + told(s.If, "IF NOT EXISTS ") + s.Name + namesText(s.Cols) + " AS " + selectText(s)
	case api.StmtDrop:
		return "DROP " + strings.ToUpper(s.What) + " " + told(s.If, "IF EXISTS ") + s.Name
	case api.StmtRename:
		return "ALTER TABLE " + s.Name + " RENAME TO " + s.To
	case api.StmtRenameCol:
		return "ALTER TABLE " + s.Name + " RENAME COLUMN " + s.Cols[0] + " TO " + s.To
	case api.StmtAddCol:
		return "ALTER TABLE " + s.Name + " ADD COLUMN " + defText(s.Defs[0])
	case api.StmtBegin:
		return "BEGIN" + told(s.What != "deferred", " "+strings.ToUpper(s.What))
	case api.StmtCommit:
		return "COMMIT"
	case api.StmtRollback:
		return "ROLLBACK"
	case api.StmtSavepoint:
		return "SAVEPOINT " + s.Name
	case api.StmtRelease:
		return "RELEASE " + s.Name
	}
	return "ROLLBACK TO " + s.Name
}

func told(is bool, s string) string {
	if !is {
		return ""
	}
	return s
}

func selectText(s api.Stmt) string {
	t, _ := expr.PrintSelect(s.Select[0])
	return t
}

// exprText is an expression with what stands ahead of it and behind it, if there is one.
func exprText(ahead string, l []api.Expr, behind string) string {
	if len(l) == 0 {
		return ""
	}
	t, _ := expr.Print(l[0])
	return ahead + t + behind
}

func orText(or api.Conflict) string {
	return told(or == api.ConfIgnore, "OR IGNORE ") + told(or == api.ConfReplace, "OR REPLACE ")
}

func commas[T any](l []T, text func(T) string) string {
	var texts []string
	for _, x := range l {
		texts = append(texts, text(x))
	}
	return strings.Join(texts, ", ")
}

func namesText(l []string) string {
	return told(len(l) > 0, "("+strings.Join(l, ", ")+")")
}

func setText(s api.Set) string {
	return s.Name + exprText(" = ", []api.Expr{s.Expr}, "")
}

func defText(d api.ColDef) string {
	return d.Name + told(d.Type != "", " "+d.Type) + told(d.Primary, " PRIMARY KEY") + told(d.Unique, " UNIQUE") + told(d.NotNull, " NOT NULL") +
		exprText(" DEFAULT ", d.Default, "") + exprText(" CHECK (", d.Check, ")") + told(d.Coll != api.CollBinary, " COLLATE "+ruleText(d.Coll))
}

func keyText(k api.IndexCol) string {
	return k.Name + told(k.Own, " COLLATE "+ruleText(k.Coll)) + told(k.Desc, " DESC")
}

func ruleText(c api.Coll) string {
	switch c {
	case api.CollNoCase:
		return "NOCASE"
	case api.CollRTrim:
		return "RTRIM"
	}
	return "BINARY"
}
